package tests

import (
	"reflect"
	"slices"
	"strconv"
	"testing"

	"loop.example/g00292/impl"
)

// roomyCertificate is a certificate whose lists have elements behind their ends; the text tells them too.
func roomyCertificate(c impl.Certificate) (impl.Certificate, func() string) {
	var wholes []any
	c = copyCertificate(c)
	for i := range c.Signatures {
		for _, list := range listsOf(&c.Signatures[i]) {
			var whole []string
			*list, whole = roomy(*list, "behind")
			wholes = append(wholes, whole)
		}
	}
	nodes, allNodes := roomy(c.Nodes, 77)
	signatures, allSignatures := roomy(c.Signatures, impl.KeySignature{Index: 77, Ones: []string{"behind"}})
	c.Nodes, c.Signatures = nodes, signatures
	wholes = append(wholes, allNodes, allSignatures)
	return c, func() string { return answer("", wholes, 0) + answer("", c.Grant, 0) }
}

func TestCertifyingArgumentsAreKept(t *testing.T) {
	lists := [][]int{nil, {0}, {1, 3}, {3, 1}, {1, 1}, {0, 2, 5}, {6, 5, 4}, {0, 1, 2, 3, 4, 5, 6}}
	for _, from := range lists {
		for _, nodes := range []int{1, 4, 7, 5} {
			for _, g := range []impl.Grant{rightGrant(), {}} {
				askKept(t, "MakeCertificate", from, 3, func(from []int) { impl.MakeCertificate(nodes, g, from, 5) })
			}
		}
	}
}

func TestCheckedCertificatesAreKept(t *testing.T) {
	for _, own := range nodeCounts {
		for _, right := range rightCertificates(own) {
			for code, spoil := range faultySignatures() {
				c := copyCertificate(right)
				spoil(&c.Signatures[len(c.Signatures)-1])
				x, text := roomyCertificate(c)
				ahead := text()
				for _, nodes := range []int{1, 4, 7, 5} {
					impl.CheckCertificate(nodes, x)
				}
				askChecked(t, "with more behind the ends", own, x, code)
				if text() != ahead {
					t.Fatalf("CheckCertificate writes into its argument or behind its ends: %.200s, then %.200s", ahead, text())
				}
			}
		}
	}
}

// What lies behind an argument's end is no part of it.
func TestCertificatesEndWithTheirLists(t *testing.T) {
	whole := firstNodes(7)
	for _, nodes := range nodeCounts {
		count := ownFaults[nodes] + 1
		askCertified(t, nodes, rightGrant(), whole[:count], 5)
		askNotCertified(t, nodes, rightGrant(), whole[:count-1], 5, impl.ErrQuorum)
		all := certificate(rightGrant(), 5, whole...)
		part := impl.Certificate{Grant: all.Grant, Nodes: all.Nodes[:count], Signatures: all.Signatures[:count]}
		askChecked(t, "more behind the ends", nodes, part, impl.OK)
		part.Signatures = all.Signatures[:count-1]
		askChecked(t, "one signature behind the end", nodes, part, impl.ErrQuorum)
		part.Nodes = all.Nodes[:count-1]
		askChecked(t, "one of both behind the ends", nodes, part, impl.ErrQuorum)
	}
}

// stringLists are all lists of texts that a certificate has.
func stringLists(c impl.Certificate) [][]string {
	var lists [][]string
	for i := range c.Signatures {
		for _, list := range listsOf(&c.Signatures[i]) {
			lists = append(lists, *list)
		}
	}
	return lists
}

func TestCertificatesAreNewMemory(t *testing.T) {
	for _, nodes := range nodeCounts {
		from := slices.Clone(firstNodes(ownFaults[nodes] + 1))
		kept := slices.Clone(from)
		a, _ := impl.MakeCertificate(nodes, rightGrant(), from, 5)
		b, _ := impl.MakeCertificate(nodes, rightGrant(), from, 5)
		want := certificate(rightGrant(), 5, kept...)
		ruin(from, -9)
		if !reflect.DeepEqual(a, want) {
			t.Errorf("%d nodes: a certificate changes with the list that it was made of", nodes)
		}
		copy(from, kept)
		askApart(t, "MakeCertificate", strconv.Itoa, append(stringLists(a), stringLists(b)...)...)
		askApart(t, "MakeCertificate", func(list int) int { return list }, a.Nodes, b.Nodes, from)
		ruin(a.Signatures, impl.KeySignature{Index: 77})
		for _, x := range b.Signatures {
			if x.Index != 5 {
				t.Errorf("%d nodes: the signatures of two certificates share memory", nodes)
			}
		}
		askCertified(t, nodes, rightGrant(), kept, 5)
	}
}

func TestGrantSignaturesAreNewMemory(t *testing.T) {
	x, _ := impl.SignGrant(3, 5, rightGrant())
	y, _ := impl.SignGrant(3, 5, rightGrant())
	askApart(t, "SignGrant", strconv.Itoa, x.Ones, x.Rest, x.Path, y.Ones, y.Rest, y.Path)
	askSignGrant(t, 3, 5, rightGrant(), impl.OK)
}
