package tests

import (
	"fmt"
	"math"
	"reflect"
	"testing"

	"loop.example/g00292/impl"
)

func ownSeed(node int) string { return sha("node seed", one(node)) }

// ownNodeRoot is put together by the document's words and the library's hashes.
func ownNodeRoot(node int) string { return ownRoot(ownSeed(node)) }

// ownSigned is a node's signature of a grant's text, be the grant right or not.
func ownSigned(node, index int, g impl.Grant) impl.KeySignature {
	return ownSignature(ownSeed(node), index, ownGrantText(g))
}

func TestNodeSeeds(t *testing.T) {
	known := []string{
		"node seed\x00", "node seed\x01", "node seed\x02", "node seed\x03", "node seed\x04", "node seed\x05", "node seed\x06",
	}
	for id, under := range known {
		seed, code := impl.NodeSeed(id)
		askText(t, fmt.Sprint("NodeSeed ", id), seed, code, sha(under), impl.OK)
	}
}

func TestNodeRoots(t *testing.T) {
	seen := map[string]int{}
	for id := range 7 {
		seed, _ := impl.NodeSeed(id)
		root, code := impl.NodeRoot(id)
		askText(t, fmt.Sprint("NodeRoot ", id), root, code, ownNodeRoot(id), impl.OK)
		want, _ := impl.ChainRoot(seed)
		askText(t, fmt.Sprint("ChainRoot of the seed of ", id), want, impl.OK, root, code)
		for what, h := range map[string]string{"seed": seed, "root": root} {
			if other, known := seen[h]; known || len(h) != impl.HashSize {
				t.Errorf("the %s of %d, %d bytes, is one of %d's", what, id, len(h), other)
			}
			seen[h] = id
		}
	}
	if len(seen) != 14 {
		t.Error(len(seen))
	}
}

// noIds are numbers of no nodes at all.
func noIds() []int {
	list := []int{8, 9, 13, 64, 256, 259, 1<<16 + 3, 1<<32 + 3, 1<<62 + 3, -3, -6, -7, -256, math.MinInt + 3, math.MinInt + 6, math.MaxInt - 6}
	for _, id := range edges(0, 6) {
		if id < 0 || id > 6 {
			list = append(list, id)
		}
	}
	return list
}

func TestNoNodesSeedsAndRoots(t *testing.T) {
	for _, id := range noIds() {
		seed, code := impl.NodeSeed(id)
		askText(t, fmt.Sprint("NodeSeed ", id), seed, code, "", impl.ErrRange)
		root, code := impl.NodeRoot(id)
		askText(t, fmt.Sprint("NodeRoot ", id), root, code, "", impl.ErrRange)
	}
}

func askSignGrant(t *testing.T, id, index int, g impl.Grant, wantCode int) {
	t.Helper()
	want := impl.KeySignature{}
	if wantCode == impl.OK {
		want = ownSigned(id, index, g)
	}
	x, code := impl.SignGrant(id, index, g)
	if code != wantCode || wantCode != impl.OK && !noSignature(x) || wantCode == impl.OK && !reflect.DeepEqual(x, want) {
		t.Errorf("SignGrant %d %d %.80q: key %d, %d secrets, %d, not %d", id, index, ownGrantText(g), x.Index, len(x.Ones), code, wantCode)
	}
}

func TestSignGrantsByEveryKey(t *testing.T) {
	for id := range 7 {
		for index := range keyCount {
			g := someGrants()[(id+index)%len(someGrants())]
			askSignGrant(t, id, index, g, impl.OK)
			askSignGrant(t, id, index, rightGrant(), impl.OK)
		}
	}
	for _, g := range someGrants() {
		askSignGrant(t, 3, 5, g, impl.OK)
	}
}

// Promise 4: what a node signed is right under its own root, and under that of no other node; and it is right of no other grant.
func TestSignedUnderJustThatNodesRoot(t *testing.T) {
	var roots []string
	for id := range 7 {
		root, _ := impl.NodeRoot(id)
		roots = append(roots, root)
	}
	for id := range 7 {
		for _, index := range []int{0, id, 7} {
			for _, g := range someGrants()[:3] {
				x, code := impl.SignGrant(id, index, g)
				if code != impl.OK || x.Index != index {
					t.Fatal(id, index, code)
				}
				for of, root := range roots {
					want := impl.ErrSigned
					if of == id {
						want = impl.OK
					}
					if code := impl.CheckSignature(root, ownGrantText(g), x); code != want {
						t.Errorf("node %d's signature under the root of %d: %d, not %d", id, of, code, want)
					}
				}
				for _, other := range someGrants() {
					if other == g {
						continue
					}
					if code := impl.CheckSignature(roots[id], ownGrantText(other), x); code != impl.ErrSigned {
						t.Errorf("node %d's signature of %v for %v: %d", id, g, other, code)
					}
				}
			}
		}
	}
}

// wrongGrants are grants with one fault each, and the empty one.
func wrongGrants() []impl.Grant {
	list := []impl.Grant{{}, granted("", 7, 300, 70000), granted("9", 7, 300, 70000), granted("a b", 7, 300, 70000), granted("a23456789_123", 7, 300, 70000), granted(longText(), 7, 300, 70000)}
	for _, f := range grantFields() {
		for _, n := range []int{f.least - 1, f.most + 1, math.MinInt, math.MaxInt} {
			g := rightGrant()
			*f.at(&g) = n
			list = append(list, g)
		}
	}
	return list
}

// noIndexes are numbers of no key at all.
func noIndexes() []int {
	list := []int{9, 15, 64, 256, 257, 1<<32 + 1, -8, -256, math.MinInt + 1, math.MaxInt - 7}
	for _, index := range edges(0, 7) {
		if index < 0 || index > 7 {
			list = append(list, index)
		}
	}
	return list
}

func TestSignGrantCodes(t *testing.T) {
	for _, id := range noIds() {
		askSignGrant(t, id, 0, rightGrant(), impl.ErrRange)
	}
	for _, index := range noIndexes() {
		askSignGrant(t, 3, index, rightGrant(), impl.ErrRange)
		for _, id := range []int{-1, 7, math.MinInt, math.MaxInt} {
			askSignGrant(t, id, index, rightGrant(), impl.ErrRange)
		}
	}
	for _, g := range wrongGrants() {
		for _, id := range []int{0, 6, -1, 7, math.MinInt, math.MaxInt} {
			for _, index := range []int{0, 7, -1, 8, math.MinInt, math.MaxInt} {
				askSignGrant(t, id, index, g, impl.ErrBad)
			}
		}
	}
}

func TestSignGrantEdges(t *testing.T) {
	for _, id := range []int{-1, 0, 6, 7} {
		for _, index := range []int{-1, 0, 7, 8} {
			want := impl.OK
			if id < 0 || id > 6 || index < 0 || index > 7 {
				want = impl.ErrRange
			}
			askSignGrant(t, id, index, rightGrant(), want)
		}
	}
}
