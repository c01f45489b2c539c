package tests

import (
	"fmt"
	"math"
	"reflect"
	"slices"
	"testing"

	"loop.example/g00292/impl"
)

// certificate is signed by these nodes, each with its key of that index, by the tests' own means.
func certificate(g impl.Grant, index int, from ...int) impl.Certificate {
	c := impl.Certificate{Grant: g, Nodes: slices.Clone(from)}
	for _, node := range from {
		c.Signatures = append(c.Signatures, ownSigned(node, index, g))
	}
	return c
}

func noCertificate(c impl.Certificate) bool {
	return c.Grant == impl.Grant{} && len(c.Nodes)+len(c.Signatures) == 0
}

func askCertified(t *testing.T, nodes int, g impl.Grant, from []int, index int) impl.Certificate {
	t.Helper()
	c, code := impl.MakeCertificate(nodes, g, from, index)
	if want := certificate(g, index, from...); code != impl.OK || !reflect.DeepEqual(c, want) {
		t.Errorf("MakeCertificate %d %v %v %d: %v by %v, %d signatures, %d", nodes, g, from, index, c.Grant, c.Nodes, len(c.Signatures), code)
	}
	if code := impl.CheckCertificate(nodes, c); code != impl.OK {
		t.Errorf("CheckCertificate of what was made, %d %v %v %d: %d", nodes, g, from, index, code)
	}
	return c
}

func askNotCertified(t *testing.T, nodes int, g impl.Grant, from []int, index, want int) {
	t.Helper()
	if c, code := impl.MakeCertificate(nodes, g, from, index); code != want || !noCertificate(c) {
		t.Errorf("MakeCertificate %d %.80q by %.60s, %d: %d signatures, %d, not %d", nodes, ownGrantText(g), fmt.Sprint(from), index, len(c.Signatures), code, want)
	}
}

// membersOf tells the nodes of a set, rising.
func membersOf(set int) []int {
	var list []int
	for node := range 7 {
		if set>>node&1 == 1 {
			list = append(list, node)
		}
	}
	return list
}

// ownJust tells whether these are just f + 1 of the nodes, rising.
func ownJust(nodes int, from []int) bool {
	for i, node := range from {
		if node < 0 || node >= nodes || i > 0 && node <= from[i-1] {
			return false
		}
	}
	return len(from) == ownFaults[nodes]+1
}

// The text and a secret written out by the document's words, without the tests' own signatures.
func TestCertifiedWrittenOut(t *testing.T) {
	g := granted("door", 7, 300, 70000)
	c, code := impl.MakeCertificate(4, g, []int{1, 3}, 5)
	if code != impl.OK || c.Grant != g || !slices.Equal(c.Nodes, []int{1, 3}) || len(c.Signatures) != 2 {
		t.Fatal(c, code)
	}
	first := sha("digest" + "grant door 7 300 70000")[0] >> 7
	for at, node := range []string{"\x01", "\x03"} {
		x := c.Signatures[at]
		seed := sha("node seed" + node)
		if x.Index != 5 || len(x.Ones) != 32 || len(x.Rest) != 32 || len(x.Path) != 3 {
			t.Fatal(x)
		}
		if x.Ones[0] != sha("secret"+seed+"\x05\x00"+string([]byte{first})) || x.Rest[0] != sha(sha("secret"+seed+"\x05\x00"+string([]byte{1 - first}))) {
			t.Errorf("signature %d is another node's", at)
		}
		if x.Path[0] != ownKey(seed, 4) {
			t.Errorf("signature %d has the path of another key", at)
		}
	}
}

// Promise 13: every f + 1 of the nodes can certify a grant; no other set can, of fewer, of more, or with others.
func TestCertifiedByEverySet(t *testing.T) {
	for _, nodes := range nodeCounts {
		for set := range 1 << 7 {
			from := membersOf(set)
			index, g := set%keyCount, someGrants()[set%len(someGrants())]
			if ownJust(nodes, from) {
				askCertified(t, nodes, g, from, index)
			} else {
				askNotCertified(t, nodes, g, from, index, impl.ErrQuorum)
			}
		}
	}
}

// Every list of at most three numbers: falling ones, doubled ones, and such as are no nodes.
func TestCertifiedByEveryShortList(t *testing.T) {
	g := rightGrant()
	numbers := []int{-1, 0, 1, 2, 3, 4, 5, 6, 7}
	for _, nodes := range nodeCounts {
		lists := [][]int{nil, {}}
		for _, a := range numbers {
			lists = append(lists, []int{a})
			for _, b := range numbers {
				lists = append(lists, []int{a, b})
				for _, c := range numbers {
					lists = append(lists, []int{a, b, c})
				}
			}
		}
		made := 0
		for _, from := range lists {
			if !ownJust(nodes, from) {
				askNotCertified(t, nodes, g, from, 2, impl.ErrQuorum)
			} else if c, code := impl.MakeCertificate(nodes, g, from, 2); code != impl.OK || !slices.Equal(c.Nodes, from) {
				t.Errorf("MakeCertificate %d %v: %v %d", nodes, from, c.Nodes, code)
			} else {
				made++
			}
		}
		if made != map[int]int{1: 1, 4: 6, 7: 35}[nodes] {
			t.Errorf("%d nodes: %d certificates", nodes, made)
		}
	}
}

func TestCertifiedByEveryIndex(t *testing.T) {
	for _, nodes := range nodeCounts {
		from := firstNodes(ownFaults[nodes] + 1)
		for index := range keyCount {
			askCertified(t, nodes, rightGrant(), from, index)
		}
		for _, index := range noIndexes() {
			askNotCertified(t, nodes, rightGrant(), from, index, impl.ErrRange)
		}
	}
}

// noCertifiers are lists that are not just f + 1 nodes, rising, none longer than a list may be.
func noCertifiers(nodes int) [][]int {
	from := firstNodes(nodes)[nodes-ownFaults[nodes]-1:]
	lists := [][]int{nil, {}, from[1:], from[:len(from)-1], append(slices.Clone(from), nodes), append([]int{from[0]}, from...), slices.Repeat([]int{0}, impl.MaxList), firstNodes(nodes)[:0:0]}
	if nodes > 1 {
		turned := slices.Clone(from)
		slices.Reverse(turned)
		lists = append(lists, turned, slices.Repeat([]int{1}, len(from)), firstNodes(nodes), firstNodes(len(from)+1), firstNodes(len(from)-1))
	}
	for i := range from {
		for _, node := range append(noIds(), nodes, nodes+from[i], 256+from[i], 1<<32+from[i], math.MinInt+from[i]) {
			strange := slices.Clone(from)
			strange[i] = node
			lists = append(lists, strange)
		}
	}
	return lists
}

func TestCertifiedByTooFewOrOthers(t *testing.T) {
	for _, nodes := range nodeCounts {
		for _, from := range noCertifiers(nodes) {
			askNotCertified(t, nodes, rightGrant(), from, 5, impl.ErrQuorum)
		}
		for _, size := range []int{impl.MaxList + 1, 2 * impl.MaxList} {
			askNotCertified(t, nodes, rightGrant(), make([]int, size), 5, impl.ErrLong)
		}
	}
}

func TestCertifiedOfWrongGrants(t *testing.T) {
	for _, nodes := range nodeCounts {
		for _, g := range wrongGrants() {
			askNotCertified(t, nodes, g, firstNodes(ownFaults[nodes]+1), 5, impl.ErrBad)
		}
	}
}

func TestCertifiedOfNoNodes(t *testing.T) {
	for _, nodes := range noNodes() {
		for _, from := range [][]int{nil, {0}, {0, 1}, {0, 1, 2}, firstNodes(7)} {
			askNotCertified(t, nodes, rightGrant(), from, 5, impl.ErrRange)
		}
	}
}

func TestCertifiedCodesInTheirOrder(t *testing.T) {
	right := []int{1, 3}
	for _, g := range append(wrongGrants(), rightGrant()) {
		for _, nodes := range []int{4, 0, 5, math.MinInt, math.MaxInt} {
			for _, index := range []int{5, -1, 8, math.MinInt, math.MaxInt} {
				for _, from := range [][]int{right, nil, {1}, {3, 1}, {1, 1}, {1, 4}, {0, 1, 2}, make([]int, impl.MaxList), make([]int, impl.MaxList+1)} {
					want := impl.OK
					switch {
					case len(from) > impl.MaxList:
						want = impl.ErrLong
					case !ownGrantOK(g):
						want = impl.ErrBad
					case nodes != 4 || index != 5:
						want = impl.ErrRange
					case !slices.Equal(from, right):
						want = impl.ErrQuorum
					default:
						askCertified(t, nodes, g, from, index)
						continue
					}
					askNotCertified(t, nodes, g, from, index, want)
				}
			}
		}
	}
}

// Promise 13: what a run granted can be certified by any f + 1 nodes.
func TestGrantsOfRunsAreCertified(t *testing.T) {
	d := &drawn{seed: 123}
	for i := range 12 {
		list, times := drawRun(d, 40)
		grants, _ := impl.GrantsOf(list, times)
		if len(grants) == 0 {
			t.Fatal("no grants")
		}
		nodes := nodeCounts[i%3]
		order := firstNodes(nodes)
		mix(d, order)
		from := slices.Sorted(slices.Values(order[:ownFaults[nodes]+1]))
		askCertified(t, nodes, grants[d.below(len(grants))], from, d.below(keyCount))
	}
}
