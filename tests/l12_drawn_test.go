package tests

import (
	"fmt"
	"slices"
	"testing"

	"loop.example/g00292/impl"
)

// drawCertificate draws a right certificate, whose nodes may have signed with different keys.
func drawCertificate(d *drawn) (int, impl.Certificate) {
	nodes := nodeCounts[d.below(3)]
	order := firstNodes(nodes)
	mix(d, order)
	c := impl.Certificate{Grant: someGrants()[d.below(len(someGrants()))], Nodes: slices.Sorted(slices.Values(order[:ownFaults[nodes]+1]))}
	for _, node := range c.Nodes {
		c.Signatures = append(c.Signatures, ownSigned(node, d.below(keyCount), c.Grant))
	}
	return nodes, c
}

// spoilDrawn changes one thing of a certificate, or nothing that counts.
func spoilDrawn(d *drawn, c *impl.Certificate) {
	node, at := d.below(9)-1, d.below(max(1, len(c.Signatures)))
	if len(c.Signatures) == 0 || len(c.Nodes) == 0 {
		return
	}
	switch d.below(10) {
	case 0:
		c.Grant = append(someGrants(), wrongGrants()...)[d.below(len(someGrants())+len(wrongGrants()))]
	case 1:
		*grantFields()[d.below(3)].at(&c.Grant) += d.below(5) - 2
	case 2:
		c.Nodes[d.below(len(c.Nodes))] = node
	case 3:
		c.Nodes = append(c.Nodes, node)
	case 4:
		c.Signatures = append(c.Signatures, ownSigned(max(0, node)%7, d.below(8), c.Grant))
	case 5:
		c.Nodes = c.Nodes[1:]
	case 6:
		c.Signatures[at] = ownSigned(max(0, node)%7, d.below(8), c.Grant)
	case 7:
		c.Signatures[at].Index = d.below(10) - 1
	case 8:
		if list := listsOf(&c.Signatures[at])[d.below(3)]; len(*list) > 0 {
			i := d.below(len(*list))
			(*list)[i] = []string{flip(sha((*list)[i]), d.below(32)), (*list)[0], ""}[d.below(3)]
		}
	case 9:
		mix(d, c.Signatures)
	}
}

// Promise 13, held against the tests' own words: whatever is changed, what is told is what the document tells.
func TestDrawnCertificates(t *testing.T) {
	d := &drawn{seed: 125}
	tally := map[int]int{}
	for i := range 900 {
		nodes, c := drawCertificate(d)
		for range d.below(4) {
			spoilDrawn(d, &c)
		}
		if d.below(12) == 0 {
			nodes = d.below(9)
		}
		want := ownChecked(nodes, c)
		askChecked(t, fmt.Sprint("drawn ", i), nodes, c, want)
		tally[want]++
	}
	for _, code := range []int{impl.OK, impl.ErrBad, impl.ErrRange, impl.ErrQuorum, impl.ErrSigned} {
		if tally[code] < 30 {
			t.Errorf("%s: %d times", impl.CodeWord(code), tally[code])
		}
	}
}

// Promise 13: f nodes that lie sign what they like, with all their keys, and have what one other node signed of another grant;
// of a grant that no other node signed they make no right certificate, however they put it together.
func TestLiarsCertifyNothing(t *testing.T) {
	d := &drawn{seed: 126}
	lie, truth := granted("door", 66, 300, 70000), rightGrant()
	for _, nodes := range nodeCounts {
		count := ownFaults[nodes] + 1
		for range 120 {
			order := firstNodes(nodes)
			mix(d, order)
			liars, others := order[:count-1], order[count-1:]
			c := impl.Certificate{Grant: lie, Nodes: slices.Sorted(slices.Values(order[:count]))}
			if d.below(4) == 0 {
				mix(d, c.Nodes)
			}
			for _, node := range c.Nodes {
				x := ownSigned(node, d.below(keyCount), lie)
				if !slices.Contains(liars, node) {
					x = ownSigned(others[d.below(len(others))], d.below(keyCount), truth)
					if len(liars) > 0 && d.below(2) == 0 {
						x = ownSigned(liars[d.below(len(liars))], d.below(keyCount), lie)
					}
				}
				c.Signatures = append(c.Signatures, x)
			}
			if d.below(4) == 0 {
				c.Nodes, c.Signatures = c.Nodes[1:], c.Signatures[1:]
			}
			if code := impl.CheckCertificate(nodes, c); code != impl.ErrSigned && code != impl.ErrQuorum {
				t.Fatalf("%d nodes, liars %v, Nodes %v: %d", nodes, liars, c.Nodes, code)
			}
		}
	}
}
