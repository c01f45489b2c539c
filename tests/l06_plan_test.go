package tests

import (
	"fmt"
	"math"
	"slices"
	"strings"
	"testing"

	"loop.example/g00292/impl"
)

// change is a view change of that node, signed, that brings these certificates, be they right or not.
func change(from, view int, certs ...impl.Cert) impl.Message {
	var list []string
	for _, c := range certs {
		list = append(list, ownCertBytes(c))
	}
	return changeOf(from, view, ownList(list...))
}

func changeOf(from, view int, body string) impl.Message {
	return signed(from, impl.Message{Kind: impl.PbViewChange, View: view, Body: body})
}

// at is a right certificate of the first quorum of the nodes.
func at(nodes, view, seq int, body string) impl.Cert {
	return cert(quorums(nodes)[0], view, seq, body)
}

// askChange holds ViewCerts, and PlanOf with this one among others, to what a view change brings.
func askChange(t *testing.T, what string, nodes int, m impl.Message, want []impl.Cert, wantCode int) {
	t.Helper()
	got, code := impl.ViewCerts(nodes, m)
	if !slices.EqualFunc(got, want, sameCert) || code != wantCode || code != impl.OK && got != nil {
		t.Errorf("ViewCerts, %s, %d nodes: %.80v %d, not %d certs %d", what, nodes, got, code, len(want), wantCode)
	}
}

// askNoChange is askChange of a view change that is not right; no plan takes it either.
func askNoChange(t *testing.T, what string, nodes int, m impl.Message) {
	t.Helper()
	askChange(t, what, nodes, m, nil, impl.ErrSigned)
	for _, from := range quorums(nodes) {
		if place := slices.Index(from, m.From); place >= 0 {
			list := changes(from, max(1, min(20, m.View)))
			list[place] = m
			askPlan(t, what, nodes, max(1, min(20, m.View)), list, nil, impl.ErrSigned)
			return
		}
	}
}

// changes are view changes of these nodes that bring nothing.
func changes(from []int, view int) []impl.Message {
	var list []impl.Message
	for _, node := range from {
		list = append(list, change(node, view))
	}
	return list
}

func askPlan(t *testing.T, what string, nodes, view int, list []impl.Message, want []string, wantCode int) {
	t.Helper()
	askKept(t, "PlanOf", list, change(6, 20), func(list []impl.Message) {
		got, code := impl.PlanOf(nodes, view, list)
		if !slices.Equal(got, want) || code != wantCode || code != impl.OK && got != nil {
			t.Errorf("PlanOf, %s, %d nodes, view %d, %d changes: %.80q %d, not %.80q %d", what, nodes, view, len(list), got, code, want, wantCode)
		}
	})
}

func TestViewCertsOfEveryView(t *testing.T) {
	for nodes := range ownFaults {
		for from := range 7 {
			for view := -1; view <= 22; view++ {
				m := change(from, view)
				if from < nodes && view >= 1 && view <= 20 {
					askChange(t, "nothing", nodes, m, nil, impl.OK)
				} else {
					askChange(t, "nothing", nodes, m, nil, impl.ErrSigned)
				}
			}
		}
		for _, view := range []int{math.MinInt, math.MaxInt, 256 + 1, 1<<32 + 1} {
			askChange(t, "nothing", nodes, change(0, view), nil, impl.ErrSigned)
		}
	}
}

// someCerts are certificates of all places up to a Seq, of lower and lower views.
func someCerts(nodes, view, last int) []impl.Cert {
	var list []impl.Cert
	for seq := 1; seq <= last; seq++ {
		all := quorums(nodes)
		list = append(list, cert(all[seq%len(all)], max(0, view-seq), seq, body(nodes, strings.Repeat("d", seq))))
	}
	return list
}

func TestViewCertsCount(t *testing.T) {
	for nodes := range ownFaults {
		for count := range 9 {
			for _, view := range []int{1, 8, 20} {
				certs := someCerts(nodes, view, count)
				askChange(t, fmt.Sprint(count, " certs"), nodes, change(0, view, certs...), certs, impl.OK)
				for i := range certs {
					less := slices.Delete(slices.Clone(certs), i, i+1)
					askChange(t, "a gap", nodes, change(0, view, less...), less, impl.OK)
				}
			}
		}
		certs := someCerts(nodes, 20, 9)
		askNoChange(t, "one more, of Seq 9", nodes, change(0, 20, certs...))
		for i := range 8 {
			more := slices.Insert(slices.Clone(certs[:8]), i, certs[i])
			askNoChange(t, "one more, alike", nodes, change(0, 20, more...))
		}
		askNoChange(t, "one more, of Seq 1", nodes, change(0, 20, append(certs[:8:8], certs[0])...))
		askNoChange(t, "100 more", nodes, change(0, 20, slices.Repeat(certs[:1], 40)...))
	}
}

func TestViewCertsRise(t *testing.T) {
	for nodes := range ownFaults {
		for a := 1; a <= 8; a++ {
			for b := 1; b <= 8; b++ {
				certs := []impl.Cert{at(nodes, 3, a, null), at(nodes, 2, b, body(nodes, "a"))}
				m := change(0, 4, certs...)
				if a < b {
					askChange(t, fmt.Sprint(a, b), nodes, m, certs, impl.OK)
				} else {
					askNoChange(t, fmt.Sprint(a, b), nodes, m)
				}
			}
		}
	}
}

// A certificate of the view that is changed to, or of a later one, can not be.
func TestViewCertsOfLowerViews(t *testing.T) {
	for nodes := range ownFaults {
		for view := 1; view <= 20; view++ {
			for of := 0; of <= 21; of++ {
				for _, certs := range [][]impl.Cert{{at(nodes, of, 1, null)}, {at(nodes, 0, 2, null), at(nodes, of, 8, body(nodes, "a"))}} {
					m := change(0, view, certs...)
					if of < view {
						askChange(t, fmt.Sprint(of), nodes, m, certs, impl.OK)
					} else {
						askNoChange(t, fmt.Sprint(of), nodes, m)
					}
				}
			}
		}
	}
}

// wrongCerts are none that are right, of lower views than 4.
func wrongCerts(nodes int) []impl.Cert {
	from := quorums(nodes)[0]
	right := at(nodes, 2, 3, body(nodes, "a"))
	less, swapped, commit, unsigned, other, mixed, longer := copyCert(right), copyCert(right), copyCert(right), copyCert(right), copyCert(right), copyCert(right), copyCert(right)
	less.Prepares = less.Prepares[1:]
	slices.Reverse(swapped.Prepares)
	if nodes == 1 {
		swapped.Prepares = append(swapped.Prepares, swapped.Prepares[0])
	}
	m := right.Prepares[0]
	m.Kind = impl.PbCommit
	commit.Prepares[0] = signed(m.From, m)
	unsigned.Prepares[len(from)-1].Mac = mac
	other.Body = body(nodes, "other")
	mixed.Prepares[0] = prepare(from[0], 2, 3, null)
	longer.Prepares = append(longer.Prepares, prepare(6, 2, 3, right.Body))
	return []impl.Cert{{}, {Body: null}, less, swapped, commit, unsigned, other, mixed, longer, at(nodes, 2, 3, "x"), at(nodes, 2, 3, ""), at(nodes, 2, 9, null), at(nodes, 2, 0, null)}
}

func TestViewCertsOfWrongCerts(t *testing.T) {
	for nodes := range ownFaults {
		for i, c := range wrongCerts(nodes) {
			askNoChange(t, fmt.Sprint("alone ", i), nodes, change(0, 4, c))
			askNoChange(t, fmt.Sprint("first ", i), nodes, change(0, 4, c, at(nodes, 3, 4, null)))
			askNoChange(t, fmt.Sprint("last ", i), nodes, change(0, 4, at(nodes, 3, 1, null), c))
		}
		for other := range ownFaults {
			if other != nodes {
				askNoChange(t, fmt.Sprint("of ", other, " nodes"), nodes, change(0, 4, at(other, 2, 3, null)))
			}
		}
	}
}

func TestViewCertsOfOtherBodies(t *testing.T) {
	for nodes := range ownFaults {
		c := ownCertBytes(at(nodes, 2, 3, body(nodes, "a")))
		right := ownList(c)
		askChange(t, "right", nodes, changeOf(0, 4, right), []impl.Cert{at(nodes, 2, 3, body(nodes, "a"))}, impl.OK)
		for _, text := range []string{"", "x", "\x01", "\x00\x00", c, right + null, right[1:], "\x02" + right[1:], ownList(c[1:]), ownList(c + null), ownList(""), ownList(right), ownList(null), strings.Repeat("a", impl.MaxBody), strings.Repeat("a", impl.MaxBody+1), longText()} {
			askNoChange(t, fmt.Sprintf("%.12q", text), nodes, changeOf(0, 4, text))
		}
		for i := range right {
			askNoChange(t, "cut", nodes, changeOf(0, 4, right[:i]))
			b := []byte(right)
			b[i] ^= 0x80
			askNoChange(t, "changed", nodes, changeOf(0, 4, string(b)))
		}
		askNoChange(t, "101 texts", nodes, changeOf(0, 4, ownList(make([]string, 101)...)))
	}
}

func TestViewCertsOfOtherMessages(t *testing.T) {
	for nodes := range ownFaults {
		right := change(0, 4, at(nodes, 2, 3, null))
		for i, m := range changed(right) {
			if m == right {
				continue
			}
			askNoChange(t, fmt.Sprint("change ", i), nodes, m)
			// Signed again it is right with another Mac or node, of a View from 3 on, or if it brings nothing.
			if m.Mac == right.Mac && m.From == right.From && (m.View == right.View || m.View <= 2 || m.View > 20) && m.Body != null {
				askNoChange(t, fmt.Sprint("change, signed again ", i), nodes, signed(m.From, m))
			}
		}
		for i, m := range append(everyMessage(), wrongMessages()...) {
			if m = signed(0, m); m.Kind != impl.PbViewChange || m.Body != null {
				askNoChange(t, fmt.Sprint("message ", i), nodes, m)
			}
		}
		begun := right
		begun.Kind = impl.PbNewView
		askNoChange(t, "PbNewView", nodes, signed(0, begun))
		for from := nodes; from < 9; from++ {
			askChange(t, "another node", nodes, change(from, 4), nil, impl.ErrSigned)
		}
	}
}

// ErrRange comes ahead of ErrSigned, and nothing is ErrLong: texts within a message are bounded by what makes it right.
func TestViewCertsCodes(t *testing.T) {
	for _, nodes := range noNodes() {
		for _, m := range []impl.Message{{}, change(0, 1), change(0, 4, at(4, 2, 3, null)), changeOf(0, 4, longText()), {Digest: longText(), Mac: longText()}} {
			askChange(t, "no nodes", nodes, m, nil, impl.ErrRange)
		}
	}
	for nodes := range ownFaults {
		askNoChange(t, "long texts", nodes, impl.Message{Kind: impl.PbViewChange, View: 1, Digest: longText(), Mac: longText()})
		askNoChange(t, "nothing", nodes, impl.Message{})
	}
}

func TestPlansOfNothing(t *testing.T) {
	for nodes := range ownFaults {
		for _, from := range quorums(nodes) {
			for view := 1; view <= 20; view++ {
				askPlan(t, fmt.Sprint(from), nodes, view, changes(from, view), nil, impl.OK)
			}
		}
	}
}

func TestPlansKnown(t *testing.T) {
	a, b := body(4, "a"), body(4, "b")
	askPlan(t, "one place of one", 4, 2, []impl.Message{change(0, 2), change(1, 2, at(4, 1, 1, a)), change(2, 2)}, []string{a}, impl.OK)
	askPlan(t, "a gap", 4, 2, []impl.Message{change(0, 2, at(4, 1, 3, a)), change(1, 2), change(3, 2)}, []string{null, null, a}, impl.OK)
	askPlan(t, "the last place", 4, 1, []impl.Message{change(0, 1), change(1, 1), change(3, 1, at(4, 0, 8, a))}, []string{null, null, null, null, null, null, null, a}, impl.OK)
	askPlan(t, "the higher view last", 4, 5, []impl.Message{change(0, 5, at(4, 0, 1, a)), change(2, 5), change(3, 5, at(4, 1, 1, b))}, []string{b}, impl.OK)
	askPlan(t, "the higher view first", 4, 5, []impl.Message{change(0, 5, at(4, 4, 1, a)), change(2, 5), change(3, 5, at(4, 3, 1, b))}, []string{a}, impl.OK)
	askPlan(t, "the higher view in the middle", 4, 5, []impl.Message{change(0, 5, at(4, 2, 1, a)), change(2, 5, at(4, 4, 1, b)), change(3, 5, at(4, 3, 1, a))}, []string{b}, impl.OK)
	askPlan(t, "the same view", 4, 5, []impl.Message{change(0, 5, at(4, 2, 1, a)), change(2, 5, at(4, 2, 1, b)), change(3, 5, at(4, 2, 1, b))}, []string{a}, impl.OK)
	askPlan(t, "the same view, later", 4, 5, []impl.Message{change(0, 5, at(4, 1, 1, a)), change(2, 5, at(4, 2, 1, b)), change(3, 5, at(4, 2, 1, a))}, []string{b}, impl.OK)
	askPlan(t, "view 0 twice", 4, 5, []impl.Message{change(0, 5), change(2, 5, at(4, 0, 1, b)), change(3, 5, at(4, 0, 1, a))}, []string{b}, impl.OK)
	askPlan(t, "a Null one of a higher view", 4, 5, []impl.Message{change(0, 5, at(4, 1, 1, a)), change(2, 5, at(4, 2, 1, null)), change(3, 5)}, []string{null}, impl.OK)
	askPlan(t, "a Null one of a lower view", 4, 5, []impl.Message{change(0, 5, at(4, 1, 2, null)), change(2, 5, at(4, 2, 2, a)), change(3, 5)}, []string{null, a}, impl.OK)
	askPlan(t, "a Null one at the end", 4, 5, []impl.Message{change(0, 5, at(4, 1, 1, a), at(4, 0, 4, null)), change(2, 5), change(3, 5)}, []string{a, null, null, null}, impl.OK)
	askPlan(t, "places of several", 4, 20, []impl.Message{change(1, 20, at(4, 19, 2, a), at(4, 1, 4, b)), change(2, 20, at(4, 18, 2, b), at(4, 0, 3, b)), change(3, 20, at(4, 2, 4, a))}, []string{null, a, b, a}, impl.OK)
	one := body(1, "a")
	askPlan(t, "of 1 node", 1, 2, []impl.Message{change(0, 2, at(1, 1, 2, one))}, []string{null, one}, impl.OK)
	c, d := body(7, "c"), body(7, "d")
	askPlan(t, "of 7 nodes", 7, 3, []impl.Message{change(0, 3, at(7, 0, 1, c)), change(2, 3, at(7, 2, 1, d)), change(3, 3), change(5, 3, at(7, 1, 1, c), at(7, 2, 2, c)), change(6, 3, at(7, 2, 2, d))}, []string{d, c}, impl.OK)
}

// drawChange is what a node brings, drawn: some places, each of some lower view and one of a few bodies.
func drawChange(d *drawn, nodes, view int) []impl.Cert {
	var certs []impl.Cert
	all := quorums(nodes)
	last := d.below(9)
	for seq := 1; seq <= last; seq++ {
		if d.below(3) > 0 {
			text := []string{null, body(nodes, "a"), body(nodes, "bb"), body(nodes, "ccc")}[d.below(4)]
			certs = append(certs, cert(all[d.below(len(all))], d.below(min(view, 4)), seq, text))
		}
	}
	return certs
}

// ownPlan looks at one place after another.
func ownPlan(brought [][]impl.Cert) []string {
	var plan []string
	for seq := 8; seq >= 1; seq-- {
		text, highest := null, -1
		for _, certs := range brought {
			for _, c := range certs {
				if m := c.Prepares[0]; m.Seq == seq && m.View > highest {
					text, highest = c.Body, m.View
				}
			}
		}
		if highest >= 0 || len(plan) > 0 {
			plan = append([]string{text}, plan...)
		}
	}
	return plan
}

// Promise 8: what must be proposed again is, of each place, the batch of the highest view.
func TestDrawnPlans(t *testing.T) {
	d := &drawn{seed: 88}
	for run := range 600 {
		nodes := []int{1, 4, 7}[run%3]
		view := 1 + d.below(20)
		all := quorums(nodes)
		var list []impl.Message
		var brought [][]impl.Cert
		for _, from := range all[d.below(len(all))] {
			certs := drawChange(d, nodes, view)
			brought = append(brought, certs)
			list = append(list, change(from, view, certs...))
			askChange(t, "drawn", nodes, list[len(list)-1], certs, impl.OK)
		}
		askPlan(t, fmt.Sprint("drawn ", run), nodes, view, list, ownPlan(brought), impl.OK)
	}
}

// What a quorum prepared is in the plan of every quorum, if no later view has another: f + 1 nodes of it bring it.
func TestPlansKeepWhatAQuorumHolds(t *testing.T) {
	for nodes := range ownFaults {
		kept, other := body(nodes, "kept"), body(nodes, "x")
		for _, holders := range quorums(nodes) {
			for _, from := range quorums(nodes) {
				var list []impl.Message
				for _, node := range from {
					c := at(nodes, 1, 2, other)
					if slices.Contains(holders, node) {
						c = at(nodes, 3, 2, kept)
					}
					list = append(list, change(node, 4, c))
				}
				askPlan(t, fmt.Sprint(holders, from), nodes, 4, list, []string{null, kept}, impl.OK)
			}
		}
	}
}

func TestPlansOfOtherNodes(t *testing.T) {
	for nodes := range ownFaults {
		for _, from := range quorums(nodes) {
			list := changes(from, 3)
			for i := range from {
				for j := range i {
					swapped, alike, other := slices.Clone(list), slices.Clone(list), slices.Clone(list)
					swapped[i], swapped[j] = list[j], list[i]
					alike[i] = list[j]
					other[j] = change(from[i], 3, at(nodes, 1, 1, null))
					for _, bad := range [][]impl.Message{swapped, alike, other} {
						askPlan(t, fmt.Sprint(i, " and ", j), nodes, 3, bad, nil, impl.ErrSigned)
					}
				}
				for _, stranger := range []int{-1, nodes, 7, 8, 256 + from[i]} {
					bad := slices.Clone(list)
					bad[i] = change(stranger, 3)
					askPlan(t, fmt.Sprint("node ", stranger), nodes, 3, bad, nil, impl.ErrSigned)
				}
				for _, view := range []int{0, 1, 2, 4, 20, 21} {
					bad := slices.Clone(list)
					bad[i] = change(from[i], view)
					askPlan(t, fmt.Sprint("View ", view), nodes, 3, bad, nil, impl.ErrSigned)
				}
				bad := slices.Clone(list)
				bad[i] = prepare(from[i], 3, 1, null)
				askPlan(t, "a PbPrepare", nodes, 3, bad, nil, impl.ErrSigned)
			}
			for _, view := range []int{1, 2, 4, 20} {
				askPlan(t, "all of another View", nodes, view, list, nil, impl.ErrSigned)
			}
		}
	}
}

func TestPlansOfOtherCounts(t *testing.T) {
	for nodes, faults := range ownFaults {
		for count := range 9 {
			var from []int
			for node := range count {
				from = append(from, min(node, nodes-1))
			}
			code := impl.OK
			if count != 2*faults+1 {
				code = impl.ErrQuorum
			}
			askPlan(t, "in turn", nodes, 3, changes(from, 3), nil, code)
		}
		for _, count := range []int{0, 8, 100, 256, impl.MaxList} {
			askPlan(t, "empty ones", nodes, 3, make([]impl.Message, count), nil, impl.ErrQuorum)
		}
		askPlan(t, "nil", nodes, 3, nil, nil, impl.ErrQuorum)
		askPlan(t, "empty", nodes, 3, []impl.Message{}, nil, impl.ErrQuorum)
		askPlan(t, "empty ones, just a quorum", nodes, 3, make([]impl.Message, 2*faults+1), nil, impl.ErrSigned)
	}
}

// ErrLong comes ahead of ErrRange, ErrRange ahead of ErrQuorum, ErrQuorum ahead of ErrSigned.
func TestPlanCodes(t *testing.T) {
	long := make([]impl.Message, impl.MaxList+1)
	for _, nodes := range append(noNodes(), 1, 4, 7) {
		faults, known := ownFaults[nodes]
		for _, view := range append(edges(1, 20), 0, 3) {
			right := known && view >= 1 && view <= 20
			codes := []int{impl.ErrQuorum, impl.ErrSigned, impl.OK}
			if !right {
				codes = []int{impl.ErrRange, impl.ErrRange, impl.ErrRange}
			}
			askPlan(t, "too long", nodes, view, long, nil, impl.ErrLong)
			askPlan(t, "MaxList", nodes, view, long[1:], nil, codes[0])
			askPlan(t, "none", nodes, view, nil, nil, codes[0])
			askPlan(t, "not signed", nodes, view, make([]impl.Message, 2*faults+1), nil, codes[1])
			first := []int{0, 1, 2, 3, 4}[:2*faults+1]
			askPlan(t, "right", nodes, view, changes(first, view), nil, codes[2])
		}
	}
	askPlan(t, "long texts", 1, 1, []impl.Message{changeOf(0, 1, longText())}, nil, impl.ErrSigned)
	askPlan(t, "long texts, too many", 1, 1, []impl.Message{changeOf(0, 1, longText()), {}}, nil, impl.ErrQuorum)
}

// Promise 1: certificates that are told share no memory with each other, and a plan none with its view changes.
func TestPlansAreNew(t *testing.T) {
	certs := someCerts(7, 9, 8)
	m := change(3, 9, certs...)
	x, _ := impl.ViewCerts(7, m)
	y, _ := impl.ViewCerts(7, m)
	var lists [][]impl.Message
	for _, c := range append(slices.Clone(x), y...) {
		lists = append(lists, c.Prepares)
	}
	askApart(t, "ViewCerts", func(list int) impl.Message { return impl.Message{Kind: list} }, lists...)
	askApart(t, "ViewCerts", func(list int) string { return fmt.Sprint(list) }, bodiesOf(x), bodiesOf(y))
	clear(x[:cap(x)])
	clear(y[:cap(y)])
	askChange(t, "again", 7, m, certs, impl.OK)

	list := []impl.Message{change(0, 9), change(1, 9), m, change(4, 9), change(6, 9)}
	plan, _ := impl.PlanOf(7, 9, list)
	other, _ := impl.PlanOf(7, 9, list)
	want := bodiesOf(certs)
	askApart(t, "PlanOf", func(list int) string { return fmt.Sprint(list) }, plan, other)
	askPlan(t, "again", 7, 9, list, want, impl.OK)
	plan, _ = impl.PlanOf(7, 9, list)
	clear(list)
	if !slices.Equal(plan, want) {
		t.Error("a plan changes with its view changes")
	}
}

func bodiesOf(certs []impl.Cert) []string {
	var list []string
	for _, c := range certs {
		list = append(list, c.Body)
	}
	return list
}
