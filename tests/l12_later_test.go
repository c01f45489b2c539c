package tests

import (
	"fmt"
	"slices"
	"testing"

	"loop.example/g00292/impl"
)

func askLater(t *testing.T, a, b impl.Grant, want, wantCode int) {
	t.Helper()
	got, code := impl.LaterGrant(a, b)
	askNumber(t, fmt.Sprintf("LaterGrant %.60q %.60q", ownGrantText(a), ownGrantText(b)), got, code, want, wantCode)
}

func TestLaterGrants(t *testing.T) {
	g := rightGrant()
	askLater(t, g, g, 0, impl.OK)
	higher, lower := g, g
	higher.Token, lower.Token = g.Token+1, g.Token-1
	askLater(t, g, higher, 1, impl.OK)
	askLater(t, higher, g, -1, impl.OK)
	askLater(t, g, lower, -1, impl.OK)
	askLater(t, lower, g, 1, impl.OK)
	askLater(t, granted("z", 255, 1, topExpiry), granted("a", 0, topNext, 0), 1, impl.OK)
	askLater(t, granted("a", 0, topNext, 0), granted("z", 255, 1, topExpiry), -1, impl.OK)
}

// Tokens alone tell; what else differs tells nothing, neither the name nor the end of the lease.
func TestLaterGrantsOfEveryPair(t *testing.T) {
	for _, a := range someGrants() {
		for _, b := range someGrants() {
			switch {
			case a == b:
				askLater(t, a, b, 0, impl.OK)
			case a.Token == b.Token:
				askLater(t, a, b, 0, impl.ErrTwice)
			case a.Token < b.Token:
				askLater(t, a, b, 1, impl.OK)
			default:
				askLater(t, a, b, -1, impl.OK)
			}
		}
	}
}

func TestLaterGrantsOfOneToken(t *testing.T) {
	for _, g := range someGrants() {
		named, held, over := g, g, g
		named.Name, held.Holder, over.Expiry = "other", (g.Holder+1)%256, (g.Expiry+1)%topExpiry
		for _, other := range []impl.Grant{named, held, over} {
			askLater(t, g, other, 0, impl.ErrTwice)
			askLater(t, other, g, 0, impl.ErrTwice)
			askLater(t, other, other, 0, impl.OK)
		}
	}
}

func TestLaterGrantsOfWrongOnes(t *testing.T) {
	for _, wrong := range wrongGrants() {
		for _, g := range someGrants() {
			askLater(t, wrong, g, 0, impl.ErrBad)
			askLater(t, g, wrong, 0, impl.ErrBad)
		}
		askLater(t, wrong, wrong, 0, impl.ErrBad)
		askLater(t, wrong, impl.Grant{}, 0, impl.ErrBad)
	}
	alike := rightGrant()
	alike.Holder = 256
	askLater(t, rightGrant(), alike, 0, impl.ErrBad)
	askLater(t, alike, rightGrant(), 0, impl.ErrBad)
}

// Promise 13: grants of a run, however mixed, are put in order by their tokens.
func TestGrantsOfRunsAreOrdered(t *testing.T) {
	d := &drawn{seed: 124}
	for range 30 {
		list, times := drawRun(d, 80)
		grants, _ := impl.GrantsOf(list, times)
		mixed := slices.Clone(grants)
		mix(d, mixed)
		slices.SortFunc(mixed, func(a, b impl.Grant) int {
			later, code := impl.LaterGrant(a, b)
			if code != impl.OK {
				t.Fatal(a, b, code)
			}
			return -later
		})
		want := slices.Clone(grants)
		slices.SortFunc(want, func(a, b impl.Grant) int { return a.Token - b.Token })
		if !slices.Equal(mixed, want) {
			t.Fatalf("%v, not %v", mixed, want)
		}
	}
}
