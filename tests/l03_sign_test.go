package tests

import (
	"math"
	"reflect"
	"slices"
	"strconv"
	"strings"
	"testing"

	"loop.example/g00292/impl"
)

// ownSignature is put together by the document's words and the library's hashes.
func ownSignature(seed string, index int, msg string) impl.KeySignature {
	tree := ownTree(seed)
	x := impl.KeySignature{Index: index}
	for bit, sign := range ownBits(msg) {
		shown := 0
		if sign == '1' {
			shown = 1
		}
		x.Ones = append(x.Ones, ownSecret(seed, index, bit, shown))
		x.Rest = append(x.Rest, sha(ownSecret(seed, index, bit, 1-shown)))
	}
	beside := [8][3]int{{1, 1, 1}, {0, 1, 1}, {3, 0, 1}, {2, 0, 1}, {5, 3, 0}, {4, 3, 0}, {7, 2, 0}, {6, 2, 0}}
	for level, at := range beside[index] {
		x.Path = append(x.Path, tree[level][at])
	}
	return x
}

func noSignature(x impl.KeySignature) bool {
	return x.Index == 0 && len(x.Ones)+len(x.Rest)+len(x.Path) == 0
}

// someTexts are texts to sign, of several lengths.
func someTexts() []string {
	list := []string{"", "a", "text", "\x00", "digest", strings.Repeat("\xff", longestMsg)}
	for _, size := range []int{32, 64, 1000, 20000} {
		list = append(list, string(noise(uint64(size), size)))
	}
	return list
}

// allTexts has texts that are too long as well.
func allTexts() []string {
	return append(someTexts(), strings.Repeat("m", longestMsg+1), strings.Repeat("m", impl.MaxText), longText())
}

// askSigned holds a signature against the tests' own, and asks that it is right under its root.
func askSigned(t *testing.T, seed string, index int, msg string, x impl.KeySignature) {
	t.Helper()
	if want := ownSignature(seed, index, msg); !reflect.DeepEqual(x, want) {
		t.Errorf("signature %d of %d bytes: %x, not %x", index, len(msg), x, want)
	}
	if code := impl.CheckSignature(ownRoot(seed), msg, x); code != impl.OK {
		t.Errorf("CheckSignature %d of %d bytes: %d", index, len(msg), code)
	}
}

func TestSignEveryIndex(t *testing.T) {
	for at, seed := range someSeeds() {
		for index := range keyCount {
			for _, msg := range someTexts()[:10-2*at] {
				x, code := impl.SignAt(seed, index, msg)
				if code != impl.OK {
					t.Fatalf("SignAt %d of %d bytes: %d", index, len(msg), code)
				}
				askSigned(t, seed, index, msg, x)
			}
		}
	}
}

// A signature shows no secret of a bit's other value, neither where it stands nor elsewhere.
func TestSignatureHidesTheOthers(t *testing.T) {
	seed := sha("seed")
	for index := range keyCount {
		for _, msg := range someTexts() {
			x, _ := impl.SignAt(seed, index, msg)
			shown := slices.Concat(x.Ones, x.Rest, x.Path)
			for bit, sign := range ownBits(msg) {
				if slices.Contains(shown, ownSecret(seed, index, bit, 1-int(sign-'0'))) {
					t.Errorf("key %d, %d bytes: the other secret of bit %d is shown", index, len(msg), bit)
				}
			}
		}
	}
}

func TestSignCodes(t *testing.T) {
	for _, seed := range append(allSeeds()[2:], strings.Repeat("\xff", 3*impl.MaxText)) {
		for _, index := range []int{math.MinInt, -1, 0, 7, 8, 1 << 32, math.MaxInt} {
			for _, msg := range allTexts()[5:] {
				want := keyCode(seed, index)
				if len(msg) > longestMsg {
					want = impl.ErrLong
				}
				x, code := impl.SignAt(seed, index, msg)
				if code != want || noSignature(x) != (want != impl.OK) {
					t.Errorf("SignAt of %d bytes, %d, %d bytes: %.80v %d, not %d", len(seed), index, len(msg), x, code, want)
				}
			}
		}
	}
}

// askApart fails if two lists share memory, what stands behind their ends counted in.
func askApart[T comparable](t *testing.T, what string, mark func(list int) T, lists ...[]T) {
	t.Helper()
	for i, list := range lists {
		whole := list[:cap(list)]
		for at := range whole {
			whole[at] = mark(i)
		}
	}
	for i, list := range lists {
		for _, x := range list[:cap(list)] {
			if x != mark(i) {
				t.Fatalf("%s: list %d shares memory with another one", what, i)
			}
		}
	}
}

func TestSignatureListsAreApart(t *testing.T) {
	seed := sha("seed")
	x, _ := impl.SignAt(seed, 3, "text")
	y, _ := impl.SignAt(seed, 3, "text")
	_, z, _ := impl.SignNext(impl.KeyChain{Seed: seed, Next: 3}, "text")
	askApart(t, "SignAt", strconv.Itoa, x.Ones, x.Rest, x.Path, y.Ones, y.Rest, y.Path, z.Ones, z.Rest, z.Path)
	again, code := impl.SignAt(seed, 3, "text")
	if code != impl.OK || !reflect.DeepEqual(again, ownSignature(seed, 3, "text")) {
		t.Error("what was written into an answer is seen in a later one")
	}
}

func TestCheckUnderOtherRoots(t *testing.T) {
	seeds := someSeeds()
	for at, seed := range seeds {
		x := ownSignature(seed, at, "text")
		tree := ownTree(seed)
		others := slices.Concat(tree[0], tree[1], tree[2], []string{flip(tree[3][0], 0), flip(tree[3][0], 31)})
		for i, other := range seeds {
			if i != at {
				others = append(others, ownRoot(other))
			}
		}
		for _, root := range others {
			if code := impl.CheckSignature(root, "text", x); code != impl.ErrSigned {
				t.Errorf("CheckSignature under another root: %d", code)
			}
		}
		if code := impl.CheckSignature(tree[3][0], "text", x); code != impl.OK {
			t.Errorf("CheckSignature under its root: %d", code)
		}
	}
}

// flip changes the lowest bit of one byte of a text.
func flip(text string, at int) string {
	b := []byte(text)
	b[at] ^= 1
	return string(b)
}

func TestCheckOtherTexts(t *testing.T) {
	seed := sha("seed")
	for index := range keyCount {
		x := ownSignature(seed, index, "text")
		for _, msg := range []string{"", "tex", "text ", "Text", "text\x00", "digesttext", strings.Repeat("a", longestMsg)} {
			if code := impl.CheckSignature(ownRoot(seed), msg, x); code != impl.ErrSigned {
				t.Errorf("CheckSignature %d of %.10q: %d", index, msg, code)
			}
		}
	}
}

// copyOf has lists of its own, so that a test may change them.
func copyOf(x impl.KeySignature) impl.KeySignature {
	x.Ones, x.Rest, x.Path = slices.Clone(x.Ones), slices.Clone(x.Rest), slices.Clone(x.Path)
	return x
}

// listsOf lends out the three lists of a signature.
func listsOf(x *impl.KeySignature) [3]*[]string {
	return [3]*[]string{&x.Ones, &x.Rest, &x.Path}
}

func TestCheckChangedElements(t *testing.T) {
	seed, msg := sha("seed"), "text"
	root := ownRoot(seed)
	x := ownSignature(seed, 6, msg)
	ask := func(y impl.KeySignature, which, at, want int) {
		t.Helper()
		if code := impl.CheckSignature(root, msg, y); code != want {
			t.Errorf("CheckSignature with element %d of list %d changed: %d, not %d", at, which, code, want)
		}
	}
	for which, list := range listsOf(&x) {
		for at, h := range *list {
			for _, other := range []string{flip(h, 0), flip(h, 31), sha(h), strings.Repeat("\x00", 32)} {
				y := copyOf(x)
				(*listsOf(&y)[which])[at] = other
				ask(y, which, at, impl.ErrSigned)
			}
			for _, other := range []string{"", h[:31], h + "\x00", h + h, strings.Repeat("h", impl.MaxText), longText()} {
				y := copyOf(x)
				(*listsOf(&y)[which])[at] = other
				ask(y, which, at, impl.ErrBad)
			}
		}
	}
	y := copyOf(x)
	y.Ones, y.Rest = y.Rest, y.Ones
	ask(y, 0, -1, impl.ErrSigned)
	y = copyOf(x)
	slices.Reverse(y.Path)
	ask(y, 2, -1, impl.ErrSigned)
}

func TestCheckListLengths(t *testing.T) {
	seed, msg := sha("seed"), "text"
	x := ownSignature(seed, 2, msg)
	for which := range 3 {
		for _, change := range []func([]string) []string{
			func(list []string) []string { return list[1:] },
			func(list []string) []string { return list[:len(list)-1] },
			func(list []string) []string { return append(list, list[0]) },
			func(list []string) []string { return append(list, list...) },
			func(list []string) []string { return slices.Repeat(list, 2000) },
			func([]string) []string { return []string{} },
			func([]string) []string { return nil },
		} {
			y := copyOf(x)
			list := listsOf(&y)[which]
			*list = change(*list)
			if code := impl.CheckSignature(ownRoot(seed), msg, y); code != impl.ErrBad {
				t.Errorf("CheckSignature with %d elements in list %d: %d", len(*list), which, code)
			}
		}
	}
}

// A signature that has all but the right number of hashes in all is none.
func TestCheckListsShifted(t *testing.T) {
	x := ownSignature(sha("seed"), 2, "text")
	y := copyOf(x)
	y.Rest, y.Ones = append(y.Rest, y.Ones[31]), y.Ones[:31]
	if code := impl.CheckSignature(ownRoot(sha("seed")), "text", y); code != impl.ErrBad {
		t.Error("CheckSignature", code)
	}
	if code := impl.CheckSignature(ownRoot(sha("seed")), "text", impl.KeySignature{}); code != impl.ErrBad {
		t.Error("CheckSignature of an empty signature", code)
	}
}

func TestCheckIndex(t *testing.T) {
	seed, msg := sha("seed"), "text"
	for index := range keyCount {
		for _, other := range append(edges(0, 7), 0, 1, 2, 3, 4, 5, 6, 7, 8+index, index-8, index+1<<32, index-1<<32) {
			x := ownSignature(seed, index, msg)
			x.Index = other
			want := impl.ErrSigned
			if other < 0 || other > 7 {
				want = impl.ErrRange
			} else if other == index {
				want = impl.OK
			}
			if code := impl.CheckSignature(ownRoot(seed), msg, x); code != want {
				t.Errorf("CheckSignature of key %d as %d: %d, not %d", index, other, code, want)
			}
		}
	}
}

func TestCheckCodesInOrder(t *testing.T) {
	seed := sha("seed")
	right := ownSignature(seed, 1, "text")
	short := copyOf(right)
	short.Path = short.Path[:2]
	for _, root := range append(noSeeds(), ownRoot(seed), sha("other"), longText()) {
		for _, msg := range append(allTexts(), "text") {
			for _, index := range []int{math.MinInt, -1, 1, 2, 8, math.MaxInt} {
				for _, x := range []impl.KeySignature{right, short} {
					x.Index = index
					want := impl.OK
					switch {
					case len(root) > impl.MaxText || len(msg) > longestMsg:
						want = impl.ErrLong
					case len(root) != 32 || len(x.Path) != 3:
						want = impl.ErrBad
					case index < 0 || index > 7:
						want = impl.ErrRange
					case index != 1 || msg != "text" || root != ownRoot(seed):
						want = impl.ErrSigned
					}
					if code := impl.CheckSignature(root, msg, x); code != want {
						t.Errorf("CheckSignature, root %d bytes, text %d, index %d: %d, not %d", len(root), len(msg), index, code, want)
					}
				}
			}
		}
	}
}

// Promise 1: nothing is written into a signature's lists, nor behind their ends.
func TestCheckLeavesItsLists(t *testing.T) {
	seed := sha("seed")
	x := ownSignature(seed, 5, "text")
	var memories, ahead [3][]string
	for which, list := range listsOf(&x) {
		memories[which] = append(slices.Clone(*list), "behind", "the", "end")
		ahead[which] = slices.Clone(memories[which])
		*list = memories[which][:len(*list)]
	}
	for _, index := range []int{5, 4, 8} {
		x.Index = index
		impl.CheckSignature(ownRoot(seed), "text", x)
	}
	if !reflect.DeepEqual(memories, ahead) {
		t.Error("CheckSignature writes into its argument or behind its end")
	}
}

func TestKeyChainOK(t *testing.T) {
	for _, seed := range allSeeds() {
		for _, next := range append(edges(0, 8), 7, 9) {
			want := len(seed) == 32 && next >= 0 && next <= 8
			if got := impl.KeyChainOK(impl.KeyChain{Seed: seed, Next: next}); got != want {
				t.Errorf("KeyChainOK of %d bytes, %d: %v", len(seed), next, got)
			}
		}
	}
	if impl.KeyChainOK(impl.KeyChain{}) {
		t.Error("an empty chain is right")
	}
}

// Promise 4: a chain signs with each key once, and each time rightly.
func TestChainSignsWithEachKeyOnce(t *testing.T) {
	for _, seed := range someSeeds() {
		c := impl.KeyChain{Seed: seed}
		for index, msg := range someTexts()[:keyCount] {
			next, x, code := impl.SignNext(c, msg)
			if code != impl.OK || next != (impl.KeyChain{Seed: seed, Next: index + 1}) {
				t.Fatalf("SignNext %d: %v %d", index, next, code)
			}
			askSigned(t, seed, index, msg, x)
			c = next
		}
		for range 2 {
			after, x, code := impl.SignNext(c, "more")
			if code != impl.ErrUsed || after != c || after.Next != keyCount || !noSignature(x) {
				t.Errorf("SignNext of a chain that is used up: %v %v %d", after, x, code)
			}
		}
	}
}

func TestChainCodes(t *testing.T) {
	for _, seed := range append(allSeeds()[3:], strings.Repeat("s", 3*impl.MaxText)) {
		for _, next := range []int{math.MinInt, -1, 0, 7, 8, 9, 1 << 32, math.MaxInt} {
			for _, msg := range allTexts()[5:] {
				c := impl.KeyChain{Seed: seed, Next: next}
				want, after := impl.OK, impl.KeyChain{Seed: seed, Next: next + 1}
				switch {
				case len(msg) > longestMsg:
					want, after = impl.ErrLong, impl.KeyChain{}
				case len(seed) != 32 || next < 0 || next > 8:
					want, after = impl.ErrBad, impl.KeyChain{}
				case next == 8:
					want, after = impl.ErrUsed, c
				}
				got, x, code := impl.SignNext(c, msg)
				if code != want || got != after || noSignature(x) != (want != impl.OK) {
					t.Errorf("SignNext of %d bytes, %d, %d bytes: %.80v %.80v %d, not %d", len(seed), next, len(msg), got, x, code, want)
				}
			}
		}
	}
}
