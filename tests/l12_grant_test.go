package tests

import (
	"fmt"
	"math"
	"strings"
	"testing"

	"loop.example/g00292/impl"
)

func ownGrantOK(g impl.Grant) bool {
	return isOpName(g.Name) && g.Holder >= 0 && g.Holder <= 255 && g.Token >= 1 && g.Token <= 1000000 && g.Expiry >= 0 && g.Expiry <= 2000000000
}

// ownGrantText tells a grant by the document's form, be it right or not.
func ownGrantText(g impl.Grant) string {
	return fmt.Sprintf("grant %s %d %d %d", g.Name, g.Holder, g.Token, g.Expiry)
}

// askGrant asks all that hangs on whether a grant is right but signatures: its text, and what that text is read as.
func askGrant(t *testing.T, g impl.Grant, right bool) {
	t.Helper()
	if got := impl.GrantOK(g); got != right {
		t.Errorf("GrantOK of %.80q: %v", ownGrantText(g), got)
	}
	text, code := impl.GrantText(g)
	if right {
		askText(t, fmt.Sprintf("GrantText of %v", g), text, code, ownGrantText(g), impl.OK)
		askRead(t, text, g, impl.OK)
		return
	}
	askText(t, fmt.Sprintf("GrantText of %.80q", ownGrantText(g)), text, code, "", impl.ErrBad)
	if wrong := ownGrantText(g); len(wrong) <= impl.MaxText {
		askNotRead(t, wrong)
	}
}

func rightGrant() impl.Grant { return granted("door", 7, 300, 70000) }

// someGrants are right grants, those at all bounds among them.
func someGrants() []impl.Grant {
	return []impl.Grant{
		rightGrant(), granted("a", 0, 1, 0), granted("a23456789_12", 255, topNext, topExpiry), granted("_", 255, 1, topExpiry),
		granted("grant", 10, 10, 10), granted("Z9", 100, 100000, 1000000000), granted("door", 7, 301, 70000), granted("door", 8, 300, 70000),
	}
}

// grantField is a number of a grant, with its bounds.
type grantField struct {
	name        string
	at          func(g *impl.Grant) *int
	least, most int
}

func grantFields() []grantField {
	return []grantField{
		{"Holder", func(g *impl.Grant) *int { return &g.Holder }, 0, 255},
		{"Token", func(g *impl.Grant) *int { return &g.Token }, 1, 1000000},
		{"Expiry", func(g *impl.Grant) *int { return &g.Expiry }, 0, 2000000000},
	}
}

func TestGrantNumbers(t *testing.T) {
	for _, right := range someGrants() {
		askGrant(t, right, true)
		for _, f := range grantFields() {
			numbers := append(edges(f.least, f.most), 9, 10, 99, 100, 1<<8+f.least, 1<<24+f.least, 1<<31+f.least, 1<<32+f.least, 1<<62+f.least, math.MinInt+1, math.MinInt+f.least)
			for _, n := range numbers {
				g := right
				*f.at(&g) = n
				askGrant(t, g, n >= f.least && n <= f.most)
			}
		}
	}
}

func TestGrantNames(t *testing.T) {
	g := rightGrant()
	for _, name := range []string{"a", "Z", "_", "_9", "door", "grant", "a23456789_12", "____________"} {
		g.Name = name
		askGrant(t, g, true)
	}
	wrong := append(oddTexts(), "9", "9a", "a b", "a ", " a", "a-b", "a\n", "a\t", "a23456789_123", "a23456789_1 2", strings.Repeat("a", 40), "\u00e9", "a\u00e9", "\uff41", "a\u00a0b", "a\u0085", "a\xff", "a\x00", "abcdefghijk\u00e9")
	for _, name := range wrong {
		g.Name = name
		askGrant(t, g, isOpName(name))
	}
	for size := range 60 {
		g.Name = strings.Repeat("x", size)
		askGrant(t, g, size >= 1 && size <= 12)
	}
}

func TestGrantNameBytes(t *testing.T) {
	for c := range 256 {
		g := rightGrant()
		g.Name = string([]byte{byte(c)})
		askGrant(t, g, isNameByte(c, true))
		g.Name = "door" + g.Name + "x"
		askGrant(t, g, isNameByte(c, false))
	}
}

// Each field by itself, and two that are wrong at once.
func TestGrantsOfWrongFields(t *testing.T) {
	askGrant(t, impl.Grant{}, false)
	askGrant(t, granted("", 7, 300, 70000), false)
	askGrant(t, granted("door", 0, 0, 0), false)
	askGrant(t, granted("door", -1, 300, 0), false)
	askGrant(t, granted("door", 256, 1000001, 2000000001), false)
	askGrant(t, granted("door", math.MinInt, math.MinInt, math.MinInt), false)
	askGrant(t, granted("door", math.MaxInt, math.MaxInt, math.MaxInt), false)
	askGrant(t, granted("9", -1, 0, -1), false)
}

func TestGrantTextsWrittenOut(t *testing.T) {
	known := []struct {
		g    impl.Grant
		text string
	}{
		{granted("a", 1, 2, 30), "grant a 1 2 30"},
		{granted("a", 0, 1, 0), "grant a 0 1 0"},
		{granted("a23456789_12", 255, 1000000, 2000000000), "grant a23456789_12 255 1000000 2000000000"},
		{granted("grant", 10, 100, 1000), "grant grant 10 100 1000"},
		{granted("_", 9, 99, 999), "grant _ 9 99 999"},
	}
	for _, row := range known {
		text, code := impl.GrantText(row.g)
		askText(t, row.text, text, code, row.text, impl.OK)
		askRead(t, row.text, row.g, impl.OK)
	}
}

// A name within a grant is bounded as a name alone, however long it is.
func TestGrantTextsOfLongNames(t *testing.T) {
	for _, size := range []int{13, 40, 41, impl.MaxText - 1, impl.MaxText, impl.MaxText + 1, 4 * impl.MaxText} {
		g := rightGrant()
		g.Name = strings.Repeat("a", size)
		text, code := impl.GrantText(g)
		askText(t, fmt.Sprint("a name of ", size), text, code, "", impl.ErrBad)
		if impl.GrantOK(g) {
			t.Errorf("a name of %d is right", size)
		}
	}
}

// Promise 13: different grants have different texts, and each is read back.
func TestGrantTextsTellApart(t *testing.T) {
	seen := map[string]impl.Grant{}
	for _, name := range []string{"a", "a1", "a11", "_", "grant"} {
		for _, holder := range []int{0, 1, 11, 111, 255} {
			for _, token := range []int{1, 11, 111, 1111, 1000000} {
				for _, expiry := range []int{0, 1, 11, 111, 2000000000} {
					g := granted(name, holder, token, expiry)
					text, code := impl.GrantText(g)
					if other, known := seen[text]; known || code != impl.OK {
						t.Errorf("%v %d has the text of %v", g, code, other)
					}
					seen[text] = g
					askRead(t, text, g, impl.OK)
				}
			}
		}
	}
}

// Grants that a run made are right, so that they can be certified.
func TestGrantsOfRunsAreRight(t *testing.T) {
	d := &drawn{seed: 121}
	count := 0
	for range 30 {
		list, times := drawRun(d, 60)
		grants, code := impl.GrantsOf(list, times)
		if code != impl.OK {
			t.Fatal(code)
		}
		for _, g := range grants {
			askGrant(t, g, true)
			count++
		}
	}
	if count < 100 {
		t.Error(count)
	}
}
