package tests

import (
	"fmt"
	"math"
	"reflect"
	"slices"
	"strings"
	"testing"

	"loop.example/g00292/impl"
)

// copyCertificate has lists of its own, so that a test may change them.
func copyCertificate(c impl.Certificate) impl.Certificate {
	c.Nodes, c.Signatures = slices.Clone(c.Nodes), slices.Clone(c.Signatures)
	for i, x := range c.Signatures {
		c.Signatures[i] = copyOf(x)
	}
	return c
}

// ownSignedCode holds a signature against the only one that its node can have made of a text with that key.
func ownSignedCode(node int, text string, x impl.KeySignature) int {
	for _, list := range listsOf(&x) {
		if slices.ContainsFunc(*list, func(h string) bool { return len(h) != 32 }) {
			return impl.ErrBad
		}
	}
	switch {
	case len(x.Ones) != 32 || len(x.Rest) != 32 || len(x.Path) != 3:
		return impl.ErrBad
	case x.Index < 0 || x.Index > 7:
		return impl.ErrRange
	case !reflect.DeepEqual(x, ownSignature(ownSeed(node), x.Index, text)):
		return impl.ErrSigned
	}
	return impl.OK
}

// ownChecked tells a certificate's code by the document's words.
func ownChecked(nodes int, c impl.Certificate) int {
	_, known := ownFaults[nodes]
	switch {
	case !ownGrantOK(c.Grant):
		return impl.ErrBad
	case !known:
		return impl.ErrRange
	case !ownJust(nodes, c.Nodes) || len(c.Signatures) != len(c.Nodes):
		return impl.ErrQuorum
	}
	for i, node := range c.Nodes {
		if code := ownSignedCode(node, ownGrantText(c.Grant), c.Signatures[i]); code != impl.OK {
			return code
		}
	}
	return impl.OK
}

func askChecked(t *testing.T, what string, nodes int, c impl.Certificate, want int) {
	t.Helper()
	if code := impl.CheckCertificate(nodes, c); code != want {
		t.Errorf("CheckCertificate %d %.80q by %.60s, %.120s: %d, not %d", nodes, ownGrantText(c.Grant), fmt.Sprint(c.Nodes), what, code, want)
	}
}

// askSpoilt asks what is told of a right certificate once it is changed.
func askSpoilt(t *testing.T, what string, nodes int, c impl.Certificate, want int, change func(c *impl.Certificate)) {
	t.Helper()
	c = copyCertificate(c)
	change(&c)
	askChecked(t, what, nodes, c, want)
}

// rightCertificates are of each number of nodes the certificates of the first and of the last f + 1 of them.
func rightCertificates(nodes int) []impl.Certificate {
	count := ownFaults[nodes] + 1
	return []impl.Certificate{certificate(rightGrant(), 5, firstNodes(count)...), certificate(someGrants()[2], 0, firstNodes(nodes)[nodes-count:]...)}
}

func eachCertificate(call func(nodes int, c impl.Certificate)) {
	for _, nodes := range nodeCounts {
		for _, c := range rightCertificates(nodes) {
			call(nodes, c)
		}
	}
}

// Promise 13: signed by every f + 1 of the nodes a certificate is right; by fewer, by more, or by others it is none.
func TestCheckedOfEverySet(t *testing.T) {
	var signatures []impl.KeySignature
	for node := range 7 {
		signatures = append(signatures, ownSigned(node, node, rightGrant()))
	}
	for _, nodes := range nodeCounts {
		for set := range 1 << 7 {
			c := impl.Certificate{Grant: rightGrant(), Nodes: membersOf(set)}
			for _, node := range c.Nodes {
				c.Signatures = append(c.Signatures, signatures[node])
			}
			want := impl.ErrQuorum
			if ownJust(nodes, c.Nodes) {
				want = impl.OK
			}
			askChecked(t, "all have signed", nodes, c, want)
		}
	}
}

// A grant that is right, but another than was signed, and one that is not.
func TestCheckedOfOtherGrants(t *testing.T) {
	eachCertificate(func(nodes int, c impl.Certificate) {
		askChecked(t, "right", nodes, c, impl.OK)
		for _, g := range someGrants() {
			if g != c.Grant {
				askSpoilt(t, "another grant", nodes, c, impl.ErrSigned, func(c *impl.Certificate) { c.Grant = g })
			}
		}
		for _, g := range wrongGrants() {
			askSpoilt(t, "a wrong grant", nodes, c, impl.ErrBad, func(c *impl.Certificate) { c.Grant = g })
			askChecked(t, "a wrong grant, signed", nodes, certificate(g, 5, c.Nodes...), impl.ErrBad)
		}
		for _, f := range grantFields() {
			for _, by := range []int{-1, 1} {
				g := c.Grant
				*f.at(&g) += by
				want := impl.ErrSigned
				if !ownGrantOK(g) {
					want = impl.ErrBad
				}
				askSpoilt(t, f.name, nodes, c, want, func(c *impl.Certificate) { c.Grant = g })
			}
		}
	})
	askChecked(t, "empty", 4, impl.Certificate{}, impl.ErrBad)
	askChecked(t, "a grant alone", 4, impl.Certificate{Grant: rightGrant()}, impl.ErrQuorum)
}

func TestCheckedOfNoNodes(t *testing.T) {
	eachCertificate(func(own int, c impl.Certificate) {
		for _, nodes := range noNodes() {
			askChecked(t, "no such nodes", nodes, c, impl.ErrRange)
		}
		for _, nodes := range nodeCounts {
			askChecked(t, fmt.Sprint("made of ", own), nodes, c, ownChecked(nodes, c))
		}
	})
}

// Whoever the Nodes are, they have all signed, as far as there are keys of theirs.
func TestCheckedOfOtherNodes(t *testing.T) {
	g := rightGrant()
	for _, nodes := range nodeCounts {
		right := rightCertificates(nodes)[0]
		for _, from := range noCertifiers(nodes) {
			c := impl.Certificate{Grant: g, Nodes: from}
			for _, node := range from[:min(len(from), 8)] {
				c.Signatures = append(c.Signatures, ownSigned(node, 5, g))
			}
			askChecked(t, "they have signed", nodes, c, impl.ErrQuorum)
			c.Signatures = right.Signatures
			askChecked(t, "others have signed", nodes, c, impl.ErrQuorum)
		}
		for _, size := range []int{impl.MaxList, impl.MaxList + 1, 2 * impl.MaxList} {
			askSpoilt(t, fmt.Sprint(size, " Nodes"), nodes, right, impl.ErrQuorum, func(c *impl.Certificate) { c.Nodes = make([]int, size) })
			askSpoilt(t, fmt.Sprint(size, " Signatures"), nodes, right, impl.ErrQuorum, func(c *impl.Certificate) {
				c.Signatures = slices.Repeat(c.Signatures[:1], size)
			})
			askSpoilt(t, fmt.Sprint(size, " of both"), nodes, right, impl.ErrQuorum, func(c *impl.Certificate) {
				c.Nodes, c.Signatures = make([]int, size), make([]impl.KeySignature, size)
			})
		}
	}
}

func TestCheckedOfMoreOrFewerSignatures(t *testing.T) {
	eachCertificate(func(nodes int, c impl.Certificate) {
		for what, change := range map[string]func(list []impl.KeySignature) []impl.KeySignature{
			"none":          func([]impl.KeySignature) []impl.KeySignature { return nil },
			"empty":         func([]impl.KeySignature) []impl.KeySignature { return []impl.KeySignature{} },
			"one fewer":     func(list []impl.KeySignature) []impl.KeySignature { return list[:len(list)-1] },
			"the first one": func(list []impl.KeySignature) []impl.KeySignature { return list[1:] },
			"one more":      func(list []impl.KeySignature) []impl.KeySignature { return append(list, list[0]) },
			"an empty one":  func(list []impl.KeySignature) []impl.KeySignature { return append(list, impl.KeySignature{}) },
			"all twice":     func(list []impl.KeySignature) []impl.KeySignature { return append(list, list...) },
		} {
			askSpoilt(t, what, nodes, c, impl.ErrQuorum, func(c *impl.Certificate) { c.Signatures = change(c.Signatures) })
		}
	})
}

// Watched here: which root is whose. Each signature counts for the node at its place alone.
func TestCheckedOfOtherNodesSignatures(t *testing.T) {
	eachCertificate(func(nodes int, c impl.Certificate) {
		for at, node := range c.Nodes {
			for other := range 7 {
				if other == node {
					continue
				}
				for _, index := range []int{0, 5} {
					askSpoilt(t, fmt.Sprint("signature ", at, " of node ", other), nodes, c, impl.ErrSigned, func(c *impl.Certificate) {
						c.Signatures[at] = ownSigned(other, index, c.Grant)
					})
				}
				from := slices.Clone(c.Nodes)
				from[at] = other
				want := impl.ErrSigned
				if !ownJust(nodes, from) {
					want = impl.ErrQuorum
				}
				askSpoilt(t, fmt.Sprint("node ", at, " as ", other), nodes, c, want, func(c *impl.Certificate) { c.Nodes[at] = other })
			}
		}
		if len(c.Nodes) > 1 {
			askSpoilt(t, "turned signatures", nodes, c, impl.ErrSigned, func(c *impl.Certificate) { slices.Reverse(c.Signatures) })
			askSpoilt(t, "all turned", nodes, c, impl.ErrQuorum, func(c *impl.Certificate) { slices.Reverse(c.Signatures); slices.Reverse(c.Nodes) })
			askSpoilt(t, "one's own alone", nodes, c, impl.ErrSigned, func(c *impl.Certificate) { c.Signatures[1] = c.Signatures[0] })
		}
	})
}

// One node that says that it is f + 1 of them has no right certificate, though it signs for all.
func TestCheckedOfOneSigner(t *testing.T) {
	g := rightGrant()
	for _, nodes := range []int{4, 7} {
		from := firstNodes(ownFaults[nodes] + 1)
		for signer := range nodes {
			c := impl.Certificate{Grant: g, Nodes: from}
			for index := range from {
				c.Signatures = append(c.Signatures, ownSigned(signer, index, g))
			}
			askChecked(t, fmt.Sprint("signed by ", signer), nodes, c, impl.ErrSigned)
		}
	}
}

// Each node may sign with any key of its own, and not all with the same; a signature of one key is none of another.
func TestCheckedOfOtherIndexes(t *testing.T) {
	eachCertificate(func(nodes int, c impl.Certificate) {
		for at, node := range c.Nodes {
			for index := range keyCount {
				askSpoilt(t, fmt.Sprint("key ", index), nodes, c, impl.OK, func(c *impl.Certificate) {
					c.Signatures[at] = ownSigned(node, index, c.Grant)
				})
				if index != c.Signatures[at].Index {
					askSpoilt(t, fmt.Sprint("said to be key ", index), nodes, c, impl.ErrSigned, func(c *impl.Certificate) {
						c.Signatures[at].Index = index
					})
				}
			}
			for _, index := range noIndexes() {
				askSpoilt(t, fmt.Sprint("key ", index), nodes, c, impl.ErrRange, func(c *impl.Certificate) { c.Signatures[at].Index = index })
			}
		}
	})
}

func TestCheckedOfOtherGrantsSignatures(t *testing.T) {
	eachCertificate(func(nodes int, c impl.Certificate) {
		for at, node := range c.Nodes {
			for _, g := range someGrants() {
				want := impl.ErrSigned
				if g == c.Grant {
					want = impl.OK
				}
				askSpoilt(t, fmt.Sprint("signature ", at, " of ", g), nodes, c, want, func(c *impl.Certificate) {
					c.Signatures[at] = ownSigned(node, 5, g)
				})
			}
		}
	})
}

// Texts that are near the grant's own are not what was signed.
func TestCheckedOfOtherTexts(t *testing.T) {
	c := certificate(rightGrant(), 5, 1, 3)
	right := ownGrantText(rightGrant())
	for _, text := range []string{"", " " + right, right + " ", right + "\n", "Grant" + right[5:], right[6:], strings.ReplaceAll(right, " ", "  "), "digest" + right, "grant door 07 300 70000"} {
		askSpoilt(t, fmt.Sprintf("signed %q", text), 4, c, impl.ErrSigned, func(c *impl.Certificate) {
			c.Signatures[1] = ownSignature(ownSeed(3), 5, text)
		})
	}
}

// Every element of every list, changed by a bit, and as no hash.
func TestCheckedOfChangedSecrets(t *testing.T) {
	right := certificate(rightGrant(), 6, 0, 2)
	for at := range right.Nodes {
		for which, list := range listsOf(&right.Signatures[at]) {
			for i, h := range *list {
				for other, want := range map[string]int{flip(h, 0): impl.ErrSigned, flip(h, 31): impl.ErrSigned, sha(h): impl.ErrSigned, "": impl.ErrBad, h[:31]: impl.ErrBad, h + "\x00": impl.ErrBad, longText(): impl.ErrBad} {
					askSpoilt(t, fmt.Sprintf("signature %d, list %d, element %d, %.5q", at, which, i, other), 4, right, want, func(c *impl.Certificate) {
						(*listsOf(&c.Signatures[at])[which])[i] = other
					})
				}
			}
			for what, change := range map[string]func(list []string) []string{
				"shorter": func(list []string) []string { return list[:len(list)-1] },
				"longer":  func(list []string) []string { return append(list, list[0]) },
				"none":    func([]string) []string { return nil },
				"far too long": func(list []string) []string {
					return slices.Repeat(list, impl.MaxList)[:impl.MaxList+1]
				},
			} {
				askSpoilt(t, fmt.Sprintf("signature %d, list %d %s", at, which, what), 4, right, impl.ErrBad, func(c *impl.Certificate) {
					list := listsOf(&c.Signatures[at])[which]
					*list = change(*list)
				})
			}
		}
		askSpoilt(t, "an empty signature", 4, right, impl.ErrBad, func(c *impl.Certificate) { c.Signatures[at] = impl.KeySignature{} })
		askSpoilt(t, "Ones and Rest turned", 4, right, impl.ErrSigned, func(c *impl.Certificate) {
			x := &c.Signatures[at]
			x.Ones, x.Rest = x.Rest, x.Ones
		})
	}
}

// faultySignatures are, of each code, a change that leads to it.
func faultySignatures() map[int]func(x *impl.KeySignature) {
	return map[int]func(x *impl.KeySignature){
		impl.OK:        func(*impl.KeySignature) {},
		impl.ErrBad:    func(x *impl.KeySignature) { x.Index, x.Path = 9, x.Path[:2] },
		impl.ErrRange:  func(x *impl.KeySignature) { x.Index, x.Ones[3] = 9, sha("other") },
		impl.ErrSigned: func(x *impl.KeySignature) { x.Rest[31] = sha("other") },
	}
}

// Signatures are looked at one by one, each with all its faults: of two wrong ones the first one's code is told.
func TestCheckedTellsTheFirstFault(t *testing.T) {
	for _, nodes := range []int{4, 7} {
		right := rightCertificates(nodes)[0]
		for first, spoilFirst := range faultySignatures() {
			for second, spoilSecond := range faultySignatures() {
				for last := 1; last < len(right.Nodes); last++ {
					want := first
					if first == impl.OK {
						want = second
					}
					askSpoilt(t, fmt.Sprint("signatures 0 and ", last, ": ", first, " and ", second), nodes, right, want, func(c *impl.Certificate) {
						spoilFirst(&c.Signatures[0])
						spoilSecond(&c.Signatures[last])
					})
				}
			}
		}
	}
}

func TestCheckedCodesInTheirOrder(t *testing.T) {
	right := certificate(rightGrant(), 5, 1, 3)
	nodesLists := [][]int{{1, 3}, nil, {1}, {3, 1}, {1, 1}, {1, 4}, {-1, 3}, {0, 1, 3}, {0, 3}, make([]int, impl.MaxList+1)}
	for _, g := range append(wrongGrants(), rightGrant(), someGrants()[1]) {
		for _, nodes := range []int{4, 7, 1, 5, 0, math.MinInt, math.MaxInt} {
			for _, from := range nodesLists {
				for count := range 4 {
					for code, spoil := range faultySignatures() {
						c := copyCertificate(right)
						c.Grant, c.Nodes = g, from
						spoil(&c.Signatures[0])
						c.Signatures = append(c.Signatures, c.Signatures...)[:count]
						askChecked(t, fmt.Sprint(count, " signatures, ", code), nodes, c, ownChecked(nodes, c))
					}
				}
			}
		}
	}
}

// Lists and texts within a certificate are bounded by what they must be alone, never by ErrLong.
func TestCheckedHasNoLongFaults(t *testing.T) {
	right := certificate(rightGrant(), 5, 1, 3)
	far := make([]int, impl.MaxList+1)
	askSpoilt(t, "a long name", 4, right, impl.ErrBad, func(c *impl.Certificate) { c.Grant.Name, c.Nodes = longText(), far })
	askSpoilt(t, "a long name", 5, right, impl.ErrBad, func(c *impl.Certificate) { c.Grant.Name = longText() })
	askSpoilt(t, "many nodes", 5, right, impl.ErrRange, func(c *impl.Certificate) { c.Nodes = far })
	askSpoilt(t, "many nodes", 4, right, impl.ErrQuorum, func(c *impl.Certificate) { c.Nodes = far })
	askSpoilt(t, "many signatures", 4, right, impl.ErrQuorum, func(c *impl.Certificate) { c.Signatures = make([]impl.KeySignature, len(far)) })
	askSpoilt(t, "many secrets", 4, right, impl.ErrBad, func(c *impl.Certificate) { c.Signatures[1].Ones = slices.Repeat(c.Signatures[1].Ones, 200) })
	askSpoilt(t, "a long secret", 4, right, impl.ErrBad, func(c *impl.Certificate) { c.Signatures[1].Ones[31] = longText() })
}
