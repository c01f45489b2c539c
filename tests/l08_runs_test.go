package tests

import (
	"fmt"
	"math"
	"slices"
	"testing"

	"loop.example/g00292/impl"
)

// ownGroup does what the document says of groups, on the replicas that are kept in maps.
type ownGroup struct {
	nodes  int
	faulty map[int]bool
	all    []*ownReplica
	wire   []impl.Parcel
	sent   []impl.Message
}

func ownGroupOf(g impl.Group) *ownGroup {
	x := &ownGroup{nodes: g.Nodes, faulty: map[int]bool{}, wire: slices.Clone(g.Wire), sent: slices.Clone(g.Sent)}
	for _, node := range g.Faulty {
		x.faulty[node] = true
	}
	for _, r := range g.Replicas {
		x.all = append(x.all, ownOf(r))
	}
	return x
}

func (x *ownGroup) group() impl.Group {
	g := impl.Group{Nodes: x.nodes, Wire: slices.Clone(x.wire), Sent: slices.Clone(x.sent)}
	for id, r := range x.all {
		if x.faulty[id] {
			g.Faulty = append(g.Faulty, id)
		}
		g.Replicas = append(g.Replicas, r.replica())
	}
	return g
}

func (x *ownGroup) speak(node, code int) int {
	for _, m := range x.all[node].out {
		x.sent = append(x.sent, m)[:min(4096, len(x.sent)+1)]
		for _, p := range parcelsOf(x.nodes, node, []impl.Message{m}) {
			x.wire = append(x.wire, impl.Parcel{To: p.to, Message: p.message})[:min(400, len(x.wire)+1)]
		}
	}
	x.all[node].out = nil
	return code
}

func (x *ownGroup) do(a impl.GroupAct) int {
	there := func(list, n int) bool { return n >= 0 && n < list }
	onWire, onNode := a.Kind >= impl.GrGive && a.Kind <= impl.GrTwice, a.Kind == impl.GrPropose || a.Kind == impl.GrTimeout
	switch {
	case a.Kind < 1 || a.Kind > 6:
		return impl.ErrForm
	case onWire && !there(len(x.wire), a.N), !onWire && !there(x.nodes, a.Node), a.Kind == impl.GrInject && !there(x.nodes, a.N):
		return impl.ErrRange
	case onNode && x.faulty[a.Node], a.Kind == impl.GrInject && !x.faulty[a.Node]:
		return impl.ErrSigned
	case a.Kind == impl.GrTwice && len(x.wire) == 400:
		return impl.ErrFull
	case a.Kind == impl.GrTwice:
		x.wire = append(x.wire, x.wire[a.N])
	case onWire:
		p := x.wire[a.N]
		x.wire = slices.Delete(x.wire, a.N, a.N+1)
		if a.Kind == impl.GrGive && !x.faulty[p.To] {
			return x.speak(p.To, x.all[p.To].take(p.Message))
		}
	case a.Kind == impl.GrTimeout:
		return x.speak(a.Node, x.all[a.Node].timeout())
	case a.Kind == impl.GrPropose && (!impl.RequestOK(a.Request) || a.N < 0 || a.N > 1000000):
		return impl.ErrForm
	case a.Kind == impl.GrPropose:
		return x.speak(a.Node, x.all[a.Node].propose(proposedBody(x.nodes, a.N, a.Request)))
	default:
		return x.inject(a.Node, a.N, signed(a.Node, a.Message))
	}
	return impl.OK
}

func (x *ownGroup) inject(node, to int, m impl.Message) int {
	if !impl.MessageOK(m) {
		return impl.ErrForm
	}
	if len(x.wire) == 400 || len(x.sent) == 4096 {
		return impl.ErrFull
	}
	x.sent, x.wire = append(x.sent, m), append(x.wire, impl.Parcel{To: to, Message: m})
	return impl.OK
}

// drawGroup draws a right group, mostly one that no run leads to.
func drawGroup(d *drawn, nodes int) impl.Group {
	g := freshGroup(nodes, drawFaulty(d, nodes)...)
	for id := range nodes {
		g.Replicas[id] = drawReplica(d, nodes)
		g.Replicas[id].Id = id
	}
	count := []int{0, 3, 3, 9, 9, 395, 399, 400}[d.below(8)]
	g.Wire = parcels(nodes, count)
	for i := range min(count, 9) {
		to := d.below(nodes)
		m := drawMessage(d, g.Replicas[to])
		if impl.MessageSigned(nodes, m) {
			g.Wire[i] = impl.Parcel{To: to, Message: m}
		}
	}
	g.Sent = manySent(nodes, []int{0, 4, 4, 4, 4, 4, 4, 4, 4, 4, 4, 4, 4090, 4095, 4096}[d.below(15)])
	return g
}

// drawAct draws one that may well be done, and now and then one that has a code.
func drawAct(d *drawn, g impl.Group) impl.GroupAct {
	a := impl.GroupAct{Kind: 1 + d.below(6), Node: d.below(g.Nodes), N: d.below(min(9, len(g.Wire)+1)), Request: rightRequest(1 + d.below(4))}
	switch a.Kind {
	case impl.GrInject:
		a.N, a.Message = d.below(g.Nodes), drawMessage(d, g.Replicas[a.Node])
		if len(g.Faulty) > 0 && d.below(4) > 0 {
			a.Node = g.Faulty[d.below(len(g.Faulty))]
		}
		if d.below(6) == 0 {
			a.Message = forge(d, a.Message)
		}
	case impl.GrPropose:
		if d.below(3) > 0 {
			a.Node = g.Replicas[a.Node].View % g.Nodes
		}
	}
	switch odd := oddInts()[d.below(len(oddInts()))]; d.below(25) {
	case 0:
		a.Kind = odd
	case 1:
		a.Node = odd
	case 2:
		a.N = odd
	case 3:
		a.Request = wrongRequests()[d.below(15)]
	}
	return a
}

// One act on each of many right groups is what the model does.
func TestActsOnDrawnGroups(t *testing.T) {
	tally := map[string]int{}
	for run := range 800 {
		d := &drawn{seed: uint64(300000 + 60*run)}
		g := drawGroup(d, []int{4, 7, 4, 1}[run%4])
		a := drawAct(d, g)
		x := ownGroupOf(g)
		wantCode := x.do(a)
		got, code := impl.GroupStep(g, a)
		what := fmt.Sprintf("run %d, %d %d %d", run, a.Kind, a.Node, a.N)
		if code != wantCode {
			t.Errorf("%s: %d, not %d:\n%s", what, code, wantCode, groupText(g))
		}
		askSameGroup(t, what, got, x.group())
		tally[fmt.Sprint(a.Kind, " ", impl.CodeWord(code))]++
	}
	for _, word := range []string{
		"1 ok", "1 primary", "1 signed", "1 form", "1 range", "2 ok", "2 range", "2 view", "2 twice", "3 ok", "3 range", "4 ok", "4 range", "4 full",
		"5 ok", "5 signed", "5 range", "6 ok", "6 signed", "6 form", "6 range", "6 full",
	} {
		if tally[word] == 0 {
			t.Errorf("the acts came by %q never", word)
		}
	}
}

// askRun holds a run to what its acts do, one by one.
func askRun(t *testing.T, what string, nodes int, faulty []int, acts []impl.GroupAct) (impl.Group, []int) {
	t.Helper()
	g, code := impl.NewGroup(nodes, faulty)
	if code != impl.OK {
		t.Fatal(what, code)
	}
	var want []int
	for _, a := range acts {
		var code int
		g, code = impl.GroupStep(g, a)
		want = append(want, code)
	}
	var got impl.Group
	var codes []int
	askKept(t, "GroupRun", acts, impl.GroupAct{Kind: -9}, func(list []impl.GroupAct) { got, codes, code = impl.GroupRun(nodes, faulty, list) })
	if code != impl.OK || !slices.Equal(codes, want) {
		t.Errorf("GroupRun, %s: %v %d, not %v", what, codes, code, want)
	}
	askSameGroup(t, "GroupRun, "+what, got, g)
	return got, codes
}

// proposeAndGive are acts that propose once and give so many parcels.
func proposeAndGive(stamp, gives int) []impl.GroupAct {
	r := request(7, stamp, impl.LkQuery, 0, "door")
	return append([]impl.GroupAct{{Kind: impl.GrPropose, N: 3, Request: r}}, slices.Repeat([]impl.GroupAct{{Kind: impl.GrGive}}, gives)...)
}

func TestRunsKnown(t *testing.T) {
	for nodes, gives := range map[int]int{1: 0, 4: 27, 7: 90} {
		g, codes := askRun(t, "proposed and given", nodes, nil, proposeAndGive(1, gives))
		if slices.Max(codes) != impl.OK || len(g.Wire) > 0 || len(g.Sent) != 2*nodes+1 {
			t.Errorf("%d nodes: %v, %s", nodes, codes, groupText(g))
		}
		for _, r := range g.Replicas {
			if want := proposedBody(nodes, 3, request(7, 1, impl.LkQuery, 0, "door")); !slices.Equal(r.Log, []string{want}) {
				t.Errorf("%d nodes: %s", nodes, replicaText(r))
			}
		}
		_, codes = askRun(t, "one more", nodes, nil, proposeAndGive(1, gives+1))
		if codes[gives+1] != impl.ErrRange {
			t.Errorf("%d nodes: %v", nodes, codes)
		}
	}
}

func TestRunsHaveACodeOfEachAct(t *testing.T) {
	acts := []impl.GroupAct{
		{}, {Kind: impl.GrGive}, {Kind: impl.GrPropose, Node: 1, Request: rightRequest(2)}, {Kind: impl.GrTimeout, Node: 3},
		{Kind: impl.GrPropose, Request: rightRequest(2)}, {Kind: impl.GrGive}, {Kind: impl.GrTwice}, {Kind: impl.GrDrop, N: 6}, {Kind: impl.GrGive, N: -1},
		{Kind: impl.GrInject, Node: 3, N: 2, Message: impl.Message{Kind: 9}}, {Kind: impl.GrInject, Node: 3, N: 2, Message: prepare(0, 1, 1, null)},
		{Kind: impl.GrGive, N: 8}, {Kind: impl.GrTimeout, Node: 4}, {Kind: 7},
	}
	want := []int{
		impl.ErrForm, impl.ErrRange, impl.ErrPrimary, impl.ErrSigned, impl.OK, impl.OK, impl.OK, impl.OK, impl.ErrRange,
		impl.ErrForm, impl.OK, impl.ErrView, impl.ErrRange, impl.ErrForm,
	}
	if _, codes := askRun(t, "of many codes", 4, []int{3}, acts); !slices.Equal(codes, want) {
		t.Errorf("GroupRun: %v, not %v", codes, want)
	}
	_, codes := askRun(t, "none", 4, nil, nil)
	_, more := askRun(t, "none", 4, nil, []impl.GroupAct{})
	if len(codes)+len(more) > 0 {
		t.Errorf("GroupRun of none: %v %v", codes, more)
	}
	for _, a := range acts {
		askRun(t, "one", 4, []int{3}, []impl.GroupAct{a})
	}
}

func TestRunsCounts(t *testing.T) {
	long := impl.GroupAct{Kind: impl.GrGive}
	long.Message.Body = longText()
	for _, count := range []int{1, 299, 300, 301, 302, 4096, 4097, 9000} {
		acts := slices.Repeat([]impl.GroupAct{{Kind: impl.GrDrop}}, count)
		want := impl.OK
		switch {
		case count > 4096:
			want = impl.ErrLong
		case count > 300:
			want = impl.ErrMany
		}
		g, codes, code := impl.GroupRun(4, []int{1}, acts)
		if code != want || code == impl.OK && (len(codes) != count || !slices.Equal(codes, slices.Repeat([]int{impl.ErrRange}, count))) {
			t.Errorf("GroupRun of %d acts: %d codes, %d", count, len(codes), code)
		}
		askRunAnswer(t, fmt.Sprint(count, " acts"), g, codes, code)
		// With a text that is too long: behind ErrMany, for it stands within a list.
		for _, place := range []int{0, count / 2, count - 1} {
			odd := slices.Clone(acts)
			odd[place] = long
			wantLong := max(want, impl.ErrLong)
			g, codes, code := impl.GroupRun(4, []int{1}, odd)
			if code != wantLong {
				t.Errorf("GroupRun of %d acts, a long one at %d: %d", count, place, code)
			}
			askRunAnswer(t, "a long one", g, codes, code)
		}
		// Of other nodes: ahead of both, but for lists that are too long themselves.
		for _, nodes := range []int{0, 5, -1, math.MinInt, math.MaxInt} {
			wantRange := impl.ErrRange
			if count > 4096 {
				wantRange = impl.ErrLong
			}
			g, codes, code := impl.GroupRun(nodes, nil, append(acts[:count-1:count-1], long))
			if code != wantRange {
				t.Errorf("GroupRun of %d nodes and %d acts: %d", nodes, count, code)
			}
			askRunAnswer(t, "of no nodes", g, codes, code)
		}
	}
}

// askRunAnswer holds that with a code all else is zero.
func askRunAnswer(t *testing.T, what string, g impl.Group, codes []int, code int) {
	t.Helper()
	if code != impl.OK && (len(codes) > 0 || !sameGroup(g, impl.Group{})) {
		t.Errorf("GroupRun, %s: %d, and yet %v, %s", what, code, codes, groupText(g))
	}
}

func TestRunsCodes(t *testing.T) {
	for i, a := range longActs() {
		for _, place := range []int{0, 3, 6} {
			acts := slices.Insert(slices.Repeat([]impl.GroupAct{{Kind: impl.GrTimeout}}, 6), place, a)
			g, codes, code := impl.GroupRun(7, []int{1}, acts)
			if code != impl.ErrLong {
				t.Errorf("GroupRun with long act %d: %d", i, code)
			}
			askRunAnswer(t, "a long one", g, codes, code)
		}
	}
	for _, faulty := range [][]int{{1, 2}, {4}, {-1}, {0, 0}, {3, 1}, make([]int, 4096), make([]int, 4097)} {
		want := impl.ErrRange
		if len(faulty) > 4096 {
			want = impl.ErrLong
		}
		for _, count := range []int{0, 1, 300, 301} {
			g, codes, code := impl.GroupRun(4, faulty, slices.Repeat([]impl.GroupAct{longActs()[0]}, count))
			if code != want {
				t.Errorf("GroupRun of Faulty %v: %d, not %d", faulty[:min(9, len(faulty))], code, want)
			}
			askRunAnswer(t, "of other Faulty", g, codes, code)
		}
	}
}

// Texts of MaxText bytes are not too long; their acts have codes of their own.
func TestRunsOfTheLongestTexts(t *testing.T) {
	var acts []impl.GroupAct
	for _, a := range longActs() {
		for _, text := range []*string{&a.Request.Name, &a.Message.Digest, &a.Message.Body, &a.Message.Mac} {
			*text = (*text)[:min(len(*text), impl.MaxText)]
		}
		acts = append(acts, a)
	}
	askRun(t, "the longest texts", 4, []int{1}, acts)
}

// hearing is a group without faults that is on its way.
type hearing struct {
	*drawn
	g impl.Group
}

func (h *hearing) step(t *testing.T, a impl.GroupAct, want ...int) {
	t.Helper()
	next, code := impl.GroupStep(h.g, a)
	if !slices.Contains(want, code) {
		t.Fatalf("%d %d %d: %d", a.Kind, a.Node, a.N, code)
	}
	h.g = next
}

// settle gives so many parcels in any order, some of them twice.
func (h *hearing) settle(t *testing.T, most int) {
	t.Helper()
	for ; most > 0 && len(h.g.Wire) > 0; most-- {
		n := h.below(len(h.g.Wire))
		if h.below(9) == 0 && len(h.g.Wire) < 200 {
			h.step(t, impl.GroupAct{Kind: impl.GrTwice, N: n}, impl.OK)
		}
		h.step(t, impl.GroupAct{Kind: impl.GrGive, N: n}, impl.OK, impl.ErrTwice, impl.ErrView, impl.ErrLate)
	}
}

func (h *hearing) timeoutAll(t *testing.T) {
	t.Helper()
	for id := range h.g.Nodes {
		h.step(t, impl.GroupAct{Kind: impl.GrTimeout, Node: id}, impl.OK)
	}
	h.settle(t, 2000)
}

// Promise 10: with no faults, and all given, what a primary proposes is in all logs, of the next primaries, too.
func TestAllGivenIsInAllLogs(t *testing.T) {
	for run, nodes := range []int{4, 4, 4, 4, 4, 4, 7, 7, 1, 1} {
		t.Run(fmt.Sprint(run), func(t *testing.T) {
			t.Parallel()
			h := &hearing{drawn: &drawn{seed: uint64(52000 + 100*run)}, g: freshGroup(nodes)}
			views, count := run%4, 8
			if nodes == 7 {
				count = 4
			}
			var bodies []string
			for stamp := 1; stamp <= count; stamp++ {
				r := request(9, stamp, impl.LkQuery, 0, "door")
				h.step(t, impl.GroupAct{Kind: impl.GrPropose, Node: h.g.Replicas[0].View % nodes, N: stamp, Request: r}, impl.OK)
				bodies = append(bodies, proposedBody(nodes, stamp, r))
				if stamp%3 != 0 && stamp != count && stamp > views {
					h.settle(t, h.below(12)) // some is still on its way when the next one is proposed
					continue
				}
				h.settle(t, 2000)
				for id, r := range h.g.Replicas {
					if !slices.Equal(r.Log, bodies) {
						t.Fatalf("%d proposed: replica %d: %s", stamp, id, groupText(h.g))
					}
				}
				if stamp <= views {
					h.timeoutAll(t)
				}
			}
			if log, code := impl.LongestLog(h.g); code != impl.OK || !slices.Equal(log, bodies) || h.g.Replicas[nodes-1].View != views {
				t.Errorf("%d logged, %d, %s", len(log), code, groupText(h.g))
			}
		})
	}
}
