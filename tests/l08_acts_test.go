package tests

import (
	"fmt"
	"math"
	"slices"
	"strings"
	"testing"

	"loop.example/g00292/impl"
)

// askAct holds an act to its code and to how the group is behind it: as it was, but for what changes makes of it.
func askAct(t *testing.T, what string, g impl.Group, a impl.GroupAct, wantCode int, changes func(g *impl.Group)) impl.Group {
	t.Helper()
	ahead, want := copyGroup(g), copyGroup(g)
	if changes != nil {
		changes(&want)
	}
	got, code := impl.GroupStep(g, a)
	if code != wantCode {
		t.Errorf("%s, kind %d, node %d, N %d: %d, not %d", what, a.Kind, a.Node, a.N, code, wantCode)
	}
	askSameGroup(t, fmt.Sprint(what, ", kind ", a.Kind, ", node ", a.Node, ", N ", a.N), got, want)
	askSameGroup(t, what+", its argument", g, ahead)
	return got
}

// askAsItWas is askAct of a code with which nothing changes.
func askAsItWas(t *testing.T, what string, g impl.Group, a impl.GroupAct, wantCode int) {
	t.Helper()
	askAct(t, what, g, a, wantCode, nil)
}

// acted is what a node's replica does, and what comes of it: the act is done though the code be the replica's own.
func acted(node int, step func(impl.Replica) (impl.Replica, []impl.Message, int)) func(g *impl.Group) {
	return func(g *impl.Group) {
		r, sent, _ := step(g.Replicas[node])
		g.Replicas[node] = r
		for _, m := range sent {
			if len(g.Sent) < 4096 {
				g.Sent = append(g.Sent, m)
			}
			for to := range g.Nodes {
				if to != node && len(g.Wire) < 400 {
					g.Wire = append(g.Wire, impl.Parcel{To: to, Message: m})
				}
			}
		}
	}
}

func without(n int, more ...func(g *impl.Group)) func(g *impl.Group) {
	return func(g *impl.Group) {
		g.Wire = slices.Delete(g.Wire, n, n+1)
		for _, change := range more {
			change(g)
		}
	}
}

func TestActsOfOtherKinds(t *testing.T) {
	for _, g := range someGroups() {
		for _, kind := range append(edges(1, 6), -6, 7, 8, 9, 256+1, 256+2, 1<<32+3) {
			if kind >= 1 && kind <= 6 {
				continue
			}
			askAsItWas(t, "another kind", g, impl.GroupAct{Kind: kind}, impl.ErrForm)
			askAsItWas(t, "another kind", g, impl.GroupAct{Kind: kind, Node: -1, N: math.MinInt}, impl.ErrForm)
			askAsItWas(t, "another kind", g, impl.GroupAct{Kind: kind, Request: rightRequest(1), Message: prepare(0, 0, 1, null)}, impl.ErrForm)
		}
	}
}

func TestActsOnParcelsThatAreNone(t *testing.T) {
	for _, g := range someGroups() {
		for _, kind := range []int{impl.GrGive, impl.GrDrop, impl.GrTwice} {
			for _, n := range append(edges(0, len(g.Wire)-1), len(g.Wire), len(g.Wire)+256, 400, 1<<32) {
				if n < 0 || n >= len(g.Wire) {
					askAsItWas(t, "no parcel", g, impl.GroupAct{Kind: kind, N: n}, impl.ErrRange)
				}
			}
		}
	}
	full := freshGroup(4)
	full.Wire = parcels(4, 400)
	for _, n := range []int{-1, 400, 401, math.MinInt, math.MaxInt} {
		for _, kind := range []int{impl.GrGive, impl.GrDrop, impl.GrTwice} {
			askAsItWas(t, "no parcel of a full Wire", full, impl.GroupAct{Kind: kind, N: n}, impl.ErrRange)
		}
	}
}

// A parcel's act asks nothing of Node, Request and Message.
func TestActsOnParcelsLookAtNAlone(t *testing.T) {
	g := busyGroup(4, 2, 3)
	for _, node := range append(edges(0, 3), 3) {
		for _, kind := range []int{impl.GrGive, impl.GrDrop, impl.GrTwice} {
			want, wantCode := impl.GroupStep(g, impl.GroupAct{Kind: kind, N: 2})
			a := impl.GroupAct{Kind: kind, N: 2, Node: node, Request: rightRequest(3), Message: impl.Message{Kind: node}}
			got, code := impl.GroupStep(g, a)
			if code != wantCode || !sameGroup(got, want) {
				t.Errorf("kind %d of node %d: %d, not %d", kind, node, code, wantCode)
			}
		}
	}
}

func TestDropParcels(t *testing.T) {
	for _, g := range someGroups() {
		for n := range g.Wire {
			askAct(t, "GrDrop", g, impl.GroupAct{Kind: impl.GrDrop, N: n}, impl.OK, without(n))
		}
	}
	full := freshGroup(4, 2)
	full.Wire = parcels(4, 400)
	for _, n := range []int{0, 1, 255, 256, 398, 399} {
		askAct(t, "GrDrop of a full Wire", full, impl.GroupAct{Kind: impl.GrDrop, N: n}, impl.OK, without(n))
	}
}

func TestTwiceParcels(t *testing.T) {
	for _, g := range someGroups() {
		for n := range g.Wire {
			askAct(t, "GrTwice", g, impl.GroupAct{Kind: impl.GrTwice, N: n}, impl.OK, func(g *impl.Group) { g.Wire = append(g.Wire, g.Wire[n]) })
		}
	}
	for _, count := range []int{1, 398, 399, 400} {
		g := freshGroup(4, 2)
		g.Wire, g.Sent = parcels(4, count), manySent(4, 4096)
		for _, n := range []int{0, count / 2, count - 1} {
			a := impl.GroupAct{Kind: impl.GrTwice, N: n}
			if count == 400 {
				askAsItWas(t, "GrTwice at a full Wire", g, a, impl.ErrFull)
			} else {
				askAct(t, "GrTwice", g, a, impl.OK, func(g *impl.Group) { g.Wire = append(g.Wire, g.Wire[n]) })
			}
		}
	}
}

func TestGiveParcels(t *testing.T) {
	text := body(4, "door")
	for at := range 4 {
		g := freshGroup(4)
		g.Wire = []impl.Parcel{{To: 3, Message: commit(1, 0, 1, text)}, {To: 1, Message: prepare(2, 0, 2, text)}, {To: 0, Message: prepare(2, 0, 3, text)}, {To: 2, Message: proposed(0, 0, 1, text)}}
		p := g.Wire[at]
		next := askAct(t, "GrGive", g, impl.GroupAct{Kind: impl.GrGive, N: at}, impl.OK, without(at, acted(p.To, taking(p.Message))))
		for id, r := range next.Replicas {
			if sameReplica(r, fresh(4, id)) == (id == p.To) {
				t.Errorf("parcel %d to %d: replica %d", at, p.To, id)
			}
		}
		if len(next.Wire) != []int{3, 3, 3, 6}[at] || len(next.Sent) != []int{0, 0, 0, 1}[at] {
			t.Errorf("parcel %d: %d parcels, %d sent", at, len(next.Wire), len(next.Sent))
		}
	}
}

// A parcel that is given goes, whatever the code with which its node takes it.
func TestGiveParcelsOfEachCode(t *testing.T) {
	text := body(4, "door")
	g := freshGroup(4)
	g.Replicas[2].Slots[0].Body = text
	g.Replicas[2].Slots[1].Prepares = prepares([]int{1}, 0, 2, text)
	g.Replicas[2].Changes = changes([]int{1}, 5)
	known := []struct {
		m    impl.Message
		code int
	}{
		{proposed(0, 1, 2, text), impl.ErrView}, {proposed(1, 0, 2, text), impl.ErrPrimary}, {proposed(0, 0, 2, "x"), impl.ErrForm},
		{proposed(0, 0, 1, text), impl.ErrTwice}, {proposed(0, 0, 1, null), impl.ErrHeld}, {proposed(0, 0, 2, text), impl.OK},
		{prepare(1, 0, 2, null), impl.ErrTwice}, {commit(3, 2, 2, null), impl.ErrView}, {commit(3, 0, 2, null), impl.OK},
		{change(3, 0), impl.ErrView}, {changeOf(3, 5, "x"), impl.ErrSigned}, {change(3, 4), impl.ErrLate}, {change(1, 5), impl.ErrTwice}, {change(3, 5), impl.OK},
		{begun(0, 0), impl.ErrView}, {begun(0, 1), impl.ErrPrimary}, {begun(1, 1), impl.ErrSigned}, {begun(1, 1, changes(ownQuorum(4), 1)...), impl.OK},
	}
	for _, row := range known {
		for at := range 3 {
			x := copyGroup(g)
			x.Wire, x.Sent = parcels(4, 3), manySent(4, 2)
			x.Wire[at] = impl.Parcel{To: 2, Message: row.m}
			askAct(t, "GrGive", x, impl.GroupAct{Kind: impl.GrGive, N: at}, row.code, without(at, acted(2, taking(row.m))))
			if row.code != impl.OK {
				askAct(t, "GrGive of what is not taken", x, impl.GroupAct{Kind: impl.GrGive, N: at}, row.code, without(at))
			}
			x.Faulty = []int{2}
			askAct(t, "GrGive to a Faulty node", x, impl.GroupAct{Kind: impl.GrGive, N: at}, impl.OK, without(at))
		}
	}
}

// What Faulty nodes sent is given as anything else: they are heard, though they hear nothing.
func TestGiveParcelsOfFaultyNodes(t *testing.T) {
	text := body(7, "door")
	for _, from := range []int{0, 4} {
		g := freshGroup(7, 0, 4)
		for to := range 7 {
			g.Wire = []impl.Parcel{{To: to, Message: proposed(from, 0, 1, text)}}
			changes, wantCode := without(0, acted(to, taking(g.Wire[0].Message))), []int{impl.OK, impl.ErrPrimary}[min(1, from)]
			if to == 0 || to == 4 {
				changes, wantCode = without(0), impl.OK
			}
			askAct(t, fmt.Sprint("a proposal of ", from, " to ", to), g, impl.GroupAct{Kind: impl.GrGive}, wantCode, changes)
		}
	}
}

// injected is what a lie makes of a group.
func injected(node, to int, m impl.Message) func(g *impl.Group) {
	return func(g *impl.Group) {
		g.Sent = append(g.Sent, signed(node, m))
		g.Wire = append(g.Wire, impl.Parcel{To: to, Message: signed(node, m)})
	}
}

func TestInjectEveryMessage(t *testing.T) {
	for _, faulty := range [][]int{{0}, {6}, {1, 4}} {
		g := busyGroup(7, 1, faulty...)
		for i, m := range everyMessage() {
			for _, node := range faulty {
				for to := range 7 {
					a := impl.GroupAct{Kind: impl.GrInject, Node: node, N: to, Message: m}
					next := askAct(t, fmt.Sprint("message ", i), g, a, impl.OK, injected(node, to, m))
					if !impl.GroupOK(next) {
						t.Errorf("message %d of %d: the group is not right", i, node)
					}
				}
			}
		}
	}
}

// Whoever's name and mark a message has, it is signed by the Faulty node: nobody lies in another's name.
func TestInjectInOnesOwnNameAlone(t *testing.T) {
	g := freshGroup(4, 2)
	m := impl.Message{Kind: impl.PbPrepare, Seq: 1, Digest: ownDigest(null)}
	for _, from := range append(edges(0, 6), 2, 3) {
		for _, mark := range []string{"", "x", mac, ownMark(0, "x"), prepare(0, 0, 1, null).Mac, prepare(2, 0, 1, null).Mac, strings.Repeat("m", impl.MaxText)} {
			x := m
			x.From, x.Mac = from, mark
			next := askAct(t, "another's name", g, impl.GroupAct{Kind: impl.GrInject, Node: 2, N: 1, Message: x}, impl.OK, injected(2, 1, m))
			if next.Wire[0].Message.From != 2 || next.Wire[0].Message != prepare(2, 0, 1, null) || next.Sent[0] != next.Wire[0].Message {
				t.Errorf("injected: %v", next.Wire[0])
			}
		}
	}
}

func TestInjectByOthersThanFaultyNodes(t *testing.T) {
	for _, g := range []impl.Group{freshGroup(1), freshGroup(4), freshGroup(4, 3), freshGroup(7, 0, 5), busyGroup(4, 2, 1)} {
		for node := range g.Nodes {
			if slices.Contains(g.Faulty, node) {
				continue
			}
			for to := range g.Nodes {
				for _, m := range append(everyMessage(), signed(node, everyMessage()[0]), impl.Message{}, impl.Message{Kind: 9}) {
					askAsItWas(t, "a lie of one that is not Faulty", g, impl.GroupAct{Kind: impl.GrInject, Node: node, N: to, Message: m}, impl.ErrSigned)
				}
			}
		}
	}
}

func TestInjectCodes(t *testing.T) {
	right := prepare(1, 0, 1, null)
	for _, g := range []impl.Group{freshGroup(4, 1), busyGroup(7, 2, 1, 3), freshGroup(1)} {
		for _, x := range append(edges(0, 6), 3, 4, 5, g.Nodes, g.Nodes+1, 256, 257) {
			if x >= 0 && x < g.Nodes {
				continue
			}
			for _, m := range []impl.Message{right, {}} {
				askAsItWas(t, "no Node", g, impl.GroupAct{Kind: impl.GrInject, Node: x, N: 0, Message: m}, impl.ErrRange)
				askAsItWas(t, "N is no node", g, impl.GroupAct{Kind: impl.GrInject, Node: 1, N: x, Message: m}, impl.ErrRange)
				askAsItWas(t, "N is no node, of one that is not Faulty", g, impl.GroupAct{Kind: impl.GrInject, Node: 0, N: x, Message: m}, impl.ErrRange)
			}
		}
	}
	for i, m := range wrongMessages() {
		want := impl.ErrForm
		if len(m.Body) > impl.MaxText || len(m.Digest) > impl.MaxText {
			continue
		}
		askAsItWas(t, fmt.Sprint("wrong message ", i), freshGroup(4, 1), impl.GroupAct{Kind: impl.GrInject, Node: 1, N: 2, Message: m}, want)
		askAsItWas(t, fmt.Sprint("wrong message ", i, ", signed"), freshGroup(4, 1), impl.GroupAct{Kind: impl.GrInject, Node: 1, N: 2, Message: signed(1, m)}, want)
		askAsItWas(t, fmt.Sprint("wrong message ", i), freshGroup(4, 1), impl.GroupAct{Kind: impl.GrInject, Node: 2, N: 2, Message: m}, impl.ErrSigned)
	}
}

func TestInjectIntoFullLists(t *testing.T) {
	right := prepare(1, 0, 1, null)
	for _, wire := range []int{0, 399, 400} {
		for _, sent := range []int{0, 4095, 4096} {
			g := freshGroup(4, 1)
			g.Wire, g.Sent = parcels(4, wire), manySent(4, sent)
			what := fmt.Sprint(wire, " parcels, ", sent, " sent")
			a := impl.GroupAct{Kind: impl.GrInject, Node: 1, N: 3, Message: right}
			if wire < 400 && sent < 4096 {
				askAct(t, what, g, a, impl.OK, injected(1, 3, right))
			} else {
				askAsItWas(t, what, g, a, impl.ErrFull)
			}
			a.Message = impl.Message{}
			askAsItWas(t, what+", a wrong message", g, a, impl.ErrForm)
			a.Node = 0
			askAsItWas(t, what+", by another", g, a, impl.ErrSigned)
			a.N = 4
			askAsItWas(t, what+", to none", g, a, impl.ErrRange)
		}
	}
}

func TestTimeoutsOfNodes(t *testing.T) {
	for i, g := range someGroups() {
		for node := range g.Nodes {
			a := impl.GroupAct{Kind: impl.GrTimeout, Node: node, N: -7}
			if slices.Contains(g.Faulty, node) {
				askAsItWas(t, fmt.Sprint("GrTimeout of a Faulty node of group ", i), g, a, impl.ErrSigned)
				continue
			}
			want := impl.OK
			if g.Replicas[node].View == 20 {
				want = impl.ErrRange
			}
			next := askAct(t, fmt.Sprint("GrTimeout of group ", i), g, a, want, acted(node, impl.TimeoutReplica))
			if want == impl.OK && (next.Replicas[node].View != g.Replicas[node].View+1 || len(next.Sent) == len(g.Sent)) {
				t.Errorf("GrTimeout: %s", groupText(next))
			}
			if want != impl.OK {
				askAsItWas(t, "GrTimeout at MaxView", g, a, want)
			}
		}
		for _, node := range append(edges(0, 6), 3, 4, 5, g.Nodes) {
			if node < 0 || node >= g.Nodes {
				askAsItWas(t, "GrTimeout of no node", g, impl.GroupAct{Kind: impl.GrTimeout, Node: node}, impl.ErrRange)
			}
		}
	}
}

// proposedBody are the bytes of a request with readings of the first 2f + 1 nodes, one more of each next one.
func proposedBody(nodes, now int, r impl.Request) string {
	b := one(2*ownFaults[nodes] + 2)
	for _, node := range ownQuorum(nodes) {
		b += one(node) + four(now+node) + ownReadingMark(node, now+node)
	}
	return b + one(r.Client) + two(r.Stamp) + one(r.Kind) + two(r.Lease) + one(len(r.Name)) + r.Name
}

func TestProposeInGroups(t *testing.T) {
	for nodes := range ownFaults {
		for view := range 2 * nodes {
			for _, now := range []int{0, 1, 255, 65535, 999999, 1000000} {
				g := freshGroup(nodes)
				for id := range nodes {
					g.Replicas[id].View = view
				}
				r := rightRequest(now%4 + 1)
				a := impl.GroupAct{Kind: impl.GrPropose, Node: view % nodes, N: now, Request: r}
				text := proposedBody(nodes, now, r)
				next := askAct(t, "GrPropose", g, a, impl.OK, acted(view%nodes, proposing(text)))
				if len(next.Sent) < 2 || next.Sent[0] != proposed(view%nodes, view, 1, text) || next.Replicas[view%nodes].Slots[0].Body != text || !impl.BodyOK(nodes, text) {
					t.Errorf("GrPropose at %d: %s", now, groupText(next))
				}
				a.Node = (view + 1) % nodes
				if nodes > 1 {
					askAsItWas(t, "GrPropose of another than the primary", g, a, impl.ErrPrimary)
				}
			}
		}
	}
}

func TestProposeKnown(t *testing.T) {
	g := freshGroup(4)
	next, code := impl.GroupStep(g, impl.GroupAct{Kind: impl.GrPropose, N: 70, Request: request(5, 6, impl.LkAcquire, 9, "door")})
	if code != impl.OK || len(next.Sent) != 2 {
		t.Fatal("GrPropose", code)
	}
	x, code := impl.ReadBatch([]byte(next.Sent[0].Body))
	if code != impl.OK || x.Request != request(5, 6, impl.LkAcquire, 9, "door") || !slices.Equal(x.Readings, []impl.Reading{reading(0, 70), reading(1, 71), reading(2, 72)}) {
		t.Errorf("GrPropose: %v %d", x, code)
	}
}

func TestProposeCodesInGroups(t *testing.T) {
	right := rightRequest(impl.LkAcquire)
	for _, g := range []impl.Group{freshGroup(1), freshGroup(4, 2), freshGroup(7, 2, 5), freshGroup(4)} {
		for _, node := range append(edges(0, 6), 3, 4, 5, g.Nodes) {
			if node < 0 || node >= g.Nodes {
				askAsItWas(t, "no Node", g, impl.GroupAct{Kind: impl.GrPropose, Node: node, Request: right}, impl.ErrRange)
				askAsItWas(t, "no Node", g, impl.GroupAct{Kind: impl.GrPropose, Node: node, N: -1}, impl.ErrRange)
			}
		}
		for _, node := range g.Faulty {
			for _, r := range []impl.Request{right, {}} {
				askAsItWas(t, "a Faulty Node", g, impl.GroupAct{Kind: impl.GrPropose, Node: node, Request: r}, impl.ErrSigned)
				askAsItWas(t, "a Faulty Node", g, impl.GroupAct{Kind: impl.GrPropose, Node: node, Request: r, N: -1}, impl.ErrSigned)
			}
		}
		for node := range min(2, g.Nodes) {
			for _, n := range append(edges(0, 1000000), -1, 1000001, 1000002, 1<<32) {
				a := impl.GroupAct{Kind: impl.GrPropose, Node: node, N: n, Request: right}
				switch {
				case n < 0 || n > 1000000:
					askAsItWas(t, "a time out of its bounds", g, a, impl.ErrForm)
				case node == 0:
					askAct(t, "a time", g, a, impl.OK, acted(0, proposing(proposedBody(g.Nodes, n, right))))
				default:
					askAsItWas(t, "a time, of another than the primary", g, a, impl.ErrPrimary)
				}
			}
			for _, r := range wrongRequests() {
				askAsItWas(t, "a wrong request", g, impl.GroupAct{Kind: impl.GrPropose, Node: node, Request: r}, impl.ErrForm)
			}
		}
	}
}

func wrongRequests() []impl.Request {
	list := []impl.Request{{}}
	for _, kind := range []int{impl.LkAcquire, impl.LkQuery} {
		for i := range 10 {
			r := rightRequest(kind)
			switch i {
			case 0:
				r.Client = -1
			case 1:
				r.Client = 256
			case 2:
				r.Stamp = 0
			case 3:
				r.Stamp = 65536
			case 4:
				r.Kind = 0
			case 5:
				r.Kind = 5
			case 6:
				r.Lease = 1001
			case 7:
				r.Lease = -1
			case 8:
				r.Name = ""
			case 9:
				r.Name = strings.Repeat("n", 13)
			}
			list = append(list, r)
		}
	}
	long := rightRequest(impl.LkQuery)
	long.Name = strings.Repeat("n", impl.MaxText)
	return append(list, long)
}

// The primary has no Slot left, or waits for its view to be begun: what ProposeBody says.
func TestProposeOfAPrimaryThatCanNot(t *testing.T) {
	for nodes := range ownFaults {
		g := freshGroup(nodes)
		a := impl.GroupAct{Kind: impl.GrPropose, N: 3, Request: rightRequest(impl.LkQuery)}
		for seq := 1; seq <= 8; seq++ {
			text := proposedBody(nodes, 3, a.Request)
			g = askAct(t, fmt.Sprint("place ", seq), g, a, impl.OK, acted(0, proposing(text)))
		}
		askAsItWas(t, "all Slots have a Body", g, a, impl.ErrFull)
		g = freshGroup(nodes)
		g.Replicas[0].Active = false
		askAsItWas(t, "not Active", g, a, impl.ErrPrimary)
		g.Replicas[0] = fullReplica(nodes, 0, 0)
		askAsItWas(t, "all Slots have a Body", g, a, impl.ErrFull)
		g.Replicas[0].Active = false
		askAsItWas(t, "not Active", g, a, impl.ErrPrimary)
		a.N = -1
		askAsItWas(t, "not Active", g, a, impl.ErrForm)
	}
}

// longActs have one text that is too long; of another kind of act, too.
func longActs() []impl.GroupAct {
	var list []impl.GroupAct
	for kind := range 8 {
		for i := range 4 {
			a := impl.GroupAct{Kind: kind, Node: 1, Request: rightRequest(impl.LkQuery), Message: prepare(1, 0, 1, null)}
			*[]*string{&a.Request.Name, &a.Message.Digest, &a.Message.Body, &a.Message.Mac}[i] = longText()
			list = append(list, a)
		}
	}
	return list
}

func TestActsOfLongTexts(t *testing.T) {
	wrong := freshGroup(4)
	wrong.Nodes = 7
	for i, a := range longActs() {
		for _, g := range []impl.Group{freshGroup(1), busyGroup(4, 2, 1), wrong, {}} {
			got, code := impl.GroupStep(g, a)
			if code != impl.ErrLong || !sameGroup(got, impl.Group{}) {
				t.Errorf("long act %d: %d, %s", i, code, groupText(got))
			}
		}
		// One byte less is no ErrLong any more.
		for _, text := range []*string{&a.Request.Name, &a.Message.Digest, &a.Message.Body, &a.Message.Mac} {
			*text = (*text)[:min(len(*text), impl.MaxText)]
		}
		if got, code := impl.GroupStep(freshGroup(4, 1), a); code == impl.ErrLong || code == impl.ErrBad || !impl.GroupOK(got) {
			t.Errorf("act %d of MaxText bytes: %d", i, code)
		}
		if got, code := impl.GroupStep(wrong, a); code != impl.ErrBad || !sameGroup(got, impl.Group{}) {
			t.Errorf("act %d of MaxText bytes on a group that is not right: %d", i, code)
		}
	}
}
