package tests

import (
	"fmt"
	"math"
	"slices"
	"testing"

	"loop.example/g00292/impl"
)

// ownWorld does what the document says of worlds, on the tests' own groups, clients and locks.
type ownWorld struct {
	group   *ownGroup
	clients []impl.Client
	calls   []impl.CallRecord
	time    int
}

func ownWorldOf(w impl.World) *ownWorld {
	w = copyWorld(w)
	return &ownWorld{group: ownGroupOf(w.Group), clients: w.Clients, calls: w.Calls, time: w.Time}
}

func (x *ownWorld) world() impl.World {
	return copyWorld(impl.World{Group: x.group.group(), Clients: x.clients, Calls: x.calls, Time: x.time})
}

func (x *ownWorld) do(a impl.WorldAct) int {
	if x.time == 300 {
		return impl.ErrFull
	}
	x.time++
	known := a.Client >= 10 && a.Client <= 12 && a.Node >= 0 && a.Node < x.group.nodes
	switch {
	case a.Kind < 1 || a.Kind > 5, a.Kind == 1 && a.Group.Kind == impl.GrPropose:
		return impl.ErrForm
	case a.Kind == 1:
		return x.group.do(a.Group)
	case !known:
		return impl.ErrRange
	case a.Kind == 2:
		return x.call(a)
	}
	c := x.clients[a.Client-10]
	switch {
	case !c.Busy:
		return impl.ErrNone
	case a.Kind == 3:
		return x.group.do(impl.GroupAct{Kind: impl.GrPropose, Node: a.Node, N: a.N, Request: c.Request})
	case x.group.faulty[a.Node] != (a.Kind == 5):
		return impl.ErrSigned
	case a.Kind == 5 && !inBounds(impl.Reply{Stamp: 1, Answer: a.Answer}):
		return impl.ErrForm
	case a.Kind == 5:
		return x.hear(reply(a.Node, c.Id, c.Stamp, a.Answer))
	}
	said, code := ownNodeAnswer(x.group.all[a.Node].log, c.Id, c.Stamp)
	if code != impl.OK {
		return impl.ErrAgain
	}
	return x.hear(reply(a.Node, c.Id, c.Stamp, said))
}

func (x *ownWorld) call(a impl.WorldAct) int {
	c := &x.clients[a.Client-10]
	next, code := ownCall(x.group.nodes, *c, a.Op, a.Name, a.Lease)
	if code == impl.OK {
		*c = next
		x.calls = append(x.calls, impl.CallRecord{Client: c.Id, Stamp: c.Stamp, Request: c.Request, Begin: x.time, End: -1})
	}
	return code
}

func (x *ownWorld) hear(r impl.Reply) int {
	c := &x.clients[r.Client-10]
	next, code := ownTake(x.group.nodes, *c, r)
	*c = next
	if code == impl.OK && !next.Busy {
		at := slices.IndexFunc(x.calls, func(call impl.CallRecord) bool { return call.Client == r.Client && call.Stamp == r.Stamp })
		x.calls[at].End, x.calls[at].Answer = x.time, next.Accepted[r.Stamp-1]
	}
	return code
}

// drawWorld draws a right world, mostly one that no run leads to.
func drawWorld(d *drawn, nodes int) impl.World {
	var counts [3]int
	var open [3]bool
	for at := range counts {
		counts[at] = d.below(4)
		open[at] = counts[at] > 0 && d.below(3) > 0
	}
	w := servedWorld(drawGroup(d, nodes), counts, open)
	w.Time += []int{0, 1, 50, 299 - w.Time, 300 - w.Time}[d.below(5)]
	for at := range w.Clients {
		if c := &w.Clients[at]; c.Busy {
			c.Replies = drawHeard(d, w.Group, *c)
		}
	}
	return w
}

// drawHeard puts a client's call into some logs, and draws what one node has replied to it so far: the truth of some log, or a lie.
func drawHeard(d *drawn, g impl.Group, c impl.Client) []impl.Reply {
	a := drawAnswer(d)
	for id := range g.Nodes {
		log := g.Replicas[id].Log
		if len(log) > 0 && d.below(2) == 0 {
			log[d.below(len(log))] = proposedBody(g.Nodes, d.below(99), c.Request)
		}
		if truth, code := ownNodeAnswer(log, c.Id, c.Stamp); code == impl.OK && d.below(2) == 0 {
			a = truth
		}
	}
	if g.Nodes == 1 {
		return nil
	}
	return slices.Repeat([]impl.Reply{reply(d.below(g.Nodes), c.Id, c.Stamp, a)}, []int{0, 1, 3, 39, 40}[d.below(5)])
}

// drawWorldAct draws one that may well be done, and now and then one that has a code.
func drawWorldAct(d *drawn, w impl.World) impl.WorldAct {
	nodes := w.Group.Nodes
	a := impl.WorldAct{Kind: 1 + d.below(5), Client: 10 + d.below(3), Node: d.below(nodes), N: d.below(50), Op: 1 + d.below(4), Name: []string{"a", "b", "door"}[d.below(3)], Answer: drawAnswer(d)}
	a.Lease = a.Op % 2 * (1 + d.below(1000))
	switch a.Kind {
	case impl.SvGroup:
		a.Group = drawAct(d, w.Group)
	case impl.SvSend:
		if d.below(3) > 0 {
			a.Node = w.Group.Replicas[a.Node].View % nodes
		}
	case impl.SvLie:
		if len(w.Group.Faulty) > 0 && d.below(4) > 0 {
			a.Node = w.Group.Faulty[d.below(len(w.Group.Faulty))]
		}
	}
	switch odd := oddInts()[d.below(len(oddInts()))]; d.below(30) {
	case 0:
		a.Kind = odd
	case 1:
		a.Client = odd
	case 2:
		a.Node = odd
	case 3:
		a.N = odd
	case 4:
		a.Op = odd
	case 5:
		a.Lease = odd
	case 6:
		a.Name = ""
	case 7:
		a.Answer.Kind = odd
	case 8:
		a.Answer.Holder = odd
	}
	return a
}

// addTallies sums up what runs beside each other came by.
func addTallies(tallies []map[string]int) map[string]int {
	total := map[string]int{}
	for _, tally := range tallies {
		for word, count := range tally {
			total[word] += count
		}
	}
	return total
}

// askDrawnAct holds one act on a drawn world to the model.
func askDrawnAct(t *testing.T, run int, tally map[string]int) {
	t.Helper()
	d := &drawn{seed: uint64(700000 + 90*run)}
	w := drawWorld(d, []int{4, 7, 4, 1}[run%4])
	if !impl.WorldOK(w) {
		t.Fatalf("run %d: a drawn world is not right:\n%s", run, worldText(w))
	}
	a := drawWorldAct(d, w)
	x := ownWorldOf(w)
	wantCode := x.do(a)
	got, code := impl.WorldStep(w, a)
	what := fmt.Sprintf("run %d, %d %d %d %d", run, a.Kind, a.Client, a.Node, a.N)
	if code != wantCode {
		t.Errorf("%s: %d, not %d:\n%s", what, code, wantCode, worldText(w))
	}
	askSameWorld(t, what, got, x.world())
	ended := ""
	if a.Kind >= 4 && code == impl.OK && !got.Clients[a.Client-10].Busy {
		ended = " ended"
	}
	tally[fmt.Sprint(a.Kind, " ", impl.CodeWord(code), ended)]++
}

// One act on each of many right worlds is what the model does.
func TestActsOnDrawnWorlds(t *testing.T) {
	tallies := make([]map[string]int, 8)
	t.Run("runs", func(t *testing.T) {
		for part := range tallies {
			tallies[part] = map[string]int{}
			t.Run(fmt.Sprint(part), func(t *testing.T) {
				t.Parallel()
				for run := range 200 {
					askDrawnAct(t, 200*part+run, tallies[part])
				}
			})
		}
	})
	total := addTallies(tallies)
	for _, word := range []string{
		"1 ok", "1 form", "1 range", "1 full", "2 ok", "2 again", "2 form", "2 range", "3 ok", "3 none", "3 primary", "3 signed", "3 form", "3 range", "3 full",
		"4 ok", "4 ok ended", "4 none", "4 signed", "4 again", "4 full", "4 range", "5 ok", "5 ok ended", "5 none", "5 signed", "5 form", "5 full", "5 range",
	} {
		if total[word] == 0 {
			t.Errorf("the acts came by %q never", word)
		}
	}
}

// bustle draws the acts of a service: what clients do, what a plot does to their group, what liars reply.
type bustle struct {
	*plot
	w impl.World
}

func newBustle(seed uint64, nodes int) *bustle {
	p := newPlot(seed, nodes)
	return &bustle{plot: p, w: freshWorld(nodes, p.g.Faulty...)}
}

func (b *bustle) next() impl.WorldAct {
	b.g = b.w.Group
	if b.below(40) == 0 {
		return drawWorldAct(b.drawn, b.w)
	}
	client := 10 + b.below(3)
	c := b.w.Clients[client-10]
	switch x := b.below(20); {
	case x < 3 && !c.Busy:
		op := 1 + b.below(4)
		return svCall(client, op, op%2*(1+b.below(30)), []string{"a", "b"}[b.below(2)])
	case x < 2 && c.Busy:
		r := b.g.Replicas[b.below(b.g.Nodes)]
		return svSend(client, r.View%b.g.Nodes, b.w.Time)
	case x < 5 && c.Busy:
		return svReply(client, b.below(b.g.Nodes))
	case x < 6 && c.Busy && len(b.g.Faulty) > 0:
		return svLie(client, b.g.Faulty[b.below(len(b.g.Faulty))], drawAnswer(b.drawn))
	}
	a := b.plot.next()
	if a.Kind == impl.GrPropose {
		return svSend(client, a.Node, b.w.Time)
	}
	return svGroup(a)
}

// askGrown holds what is promised of an act: the world is right, one Time later, and what ended ahead stays.
func (b *bustle) askGrown(t *testing.T, what string, next impl.World) {
	t.Helper()
	if !impl.WorldOK(next) || next.Time != b.w.Time+1 || len(next.Calls) < len(b.w.Calls) || len(next.Calls) > len(b.w.Calls)+1 {
		t.Fatalf("%s: not right behind it:\n%s", what, worldText(next))
	}
	for i, call := range b.w.Calls {
		if now := next.Calls[i]; call != now && (call.End != -1 || now.End != next.Time || now.Begin != call.Begin || now.Request != call.Request) {
			t.Fatalf("%s: call %d was %v, is %v", what, i, call, now)
		}
	}
	for at, c := range next.Clients {
		ahead := b.w.Clients[at]
		if c.Stamp < ahead.Stamp || len(c.Accepted) < len(ahead.Accepted) || !slices.Equal(c.Accepted[:len(ahead.Accepted)], ahead.Accepted) {
			t.Fatalf("%s: %s, ahead %s", what, clientText(c), clientText(ahead))
		}
	}
}

// askTrue holds each answer that was accepted to what the longest log answers: at most f lie, and none in the clients' names.
func (b *bustle) askTrue(t *testing.T, what string) {
	t.Helper()
	log := ownLongest(b.w.Group)
	if right, code := impl.HistoryOK(b.w); !right || code != impl.OK {
		t.Fatalf("%s: HistoryOK %v %d:\n%s", what, right, code, worldText(b.w))
	}
	askTold(t, what, b.w)
	for _, call := range b.w.Calls {
		if call.End == -1 {
			continue
		}
		if a, code := impl.NodeAnswer(b.w.Group.Nodes, log, call.Client, call.Stamp); code != impl.OK || a != call.Answer || a != b.w.Clients[call.Client-10].Accepted[call.Stamp-1] {
			t.Fatalf("%s: %v, the log says %v %d", what, call, a, code)
		}
	}
}

func (b *bustle) run(t *testing.T, what string, count int, tally map[string]int) ([]impl.WorldAct, []int) {
	t.Helper()
	x := ownWorldOf(b.w)
	var acts []impl.WorldAct
	var codes []int
	for i := range count {
		a := b.next()
		next, code := impl.WorldStep(b.w, a)
		what := fmt.Sprintf("%s, act %d, %d %d %d: %d", what, i, a.Kind, a.Client, a.Node, code)
		b.askGrown(t, what, next)
		if wantCode := x.do(a); code != wantCode {
			t.Fatalf("%s, not %d:\n%s", what, wantCode, worldText(b.w))
		}
		tally[fmt.Sprint(a.Kind, " ", impl.CodeWord(code))]++
		for at, c := range next.Clients {
			tally["accepted"] += len(c.Accepted) - len(b.w.Clients[at].Accepted)
		}
		b.w, acts, codes = next, append(acts, a), append(codes, code)
		if i%30 == 29 || i == count-1 {
			askSameWorld(t, what, b.w, x.world())
			b.askTrue(t, what)
		}
	}
	return acts, codes
}

// Promise 19: acts of a world are done one by one, and leave it right, whatever liars say; a run is just its acts.
func TestServicesAmongLiars(t *testing.T) {
	tallies := make([]map[string]int, 48)
	t.Run("runs", func(t *testing.T) {
		for run := range tallies {
			tallies[run] = map[string]int{}
			t.Run(fmt.Sprint(run), func(t *testing.T) {
				t.Parallel()
				nodes := []int{4, 4, 7, 4, 1, 4}[run%6]
				b := newBustle(uint64(930000+700*run), nodes)
				acts, codes := b.run(t, fmt.Sprint("run ", run), 300, tallies[run])
				w, same, code := impl.WorldRun(nodes, b.w.Group.Faulty, acts)
				if code != impl.OK || !slices.Equal(same, codes) {
					t.Errorf("WorldRun: %d, %v, not %v", code, same, codes)
				}
				askSameWorld(t, "WorldRun", w, b.w)
			})
		}
	})
	total := addTallies(tallies)
	for _, word := range []string{"1 ok", "1 twice", "1 view", "2 ok", "2 again", "3 ok", "3 primary", "3 signed", "4 ok", "4 again", "4 signed", "5 ok", "5 signed", "accepted"} {
		if total[word] < 5 {
			t.Errorf("the runs came by %q but %d times", word, total[word])
		}
	}
}

// askWorldRun holds a run to what its acts do, one by one.
func askWorldRun(t *testing.T, what string, nodes int, faulty []int, acts []impl.WorldAct) (impl.World, []int) {
	t.Helper()
	w, code := impl.NewWorld(nodes, faulty)
	if code != impl.OK {
		t.Fatal(what, code)
	}
	var want []int
	for _, a := range acts {
		var code int
		w, code = impl.WorldStep(w, a)
		want = append(want, code)
	}
	var got impl.World
	var codes []int
	askKept(t, "WorldRun", acts, impl.WorldAct{Kind: -9}, func(list []impl.WorldAct) { got, codes, code = impl.WorldRun(nodes, faulty, list) })
	if code != impl.OK || !slices.Equal(codes, want) {
		t.Errorf("WorldRun, %s: %v %d, not %v", what, codes, code, want)
	}
	askSameWorld(t, "WorldRun, "+what, got, w)
	return got, codes
}

// askWorldRunAnswer holds that with a code all else is zero.
func askWorldRunAnswer(t *testing.T, what string, w impl.World, codes []int, code int) {
	t.Helper()
	if code != impl.OK && (len(codes) > 0 || !sameWorld(w, impl.World{})) {
		t.Errorf("WorldRun, %s: %d, and yet %v, %s", what, code, codes, worldText(w))
	}
}

// callAndServe are acts of one call: it is made, sent, given so often, replied to by these nodes.
func callAndServe(client, gives int, nodes ...int) []impl.WorldAct {
	list := append([]impl.WorldAct{svCall(client, impl.LkAcquire, 9, "a"), svSend(client, 0, 4)}, slices.Repeat([]impl.WorldAct{giveFirst()}, gives)...)
	for _, node := range nodes {
		list = append(list, svReply(client, node))
	}
	return list
}

func TestWorldRunsKnown(t *testing.T) {
	for nodes, gives := range map[int]int{1: 0, 4: 27, 7: 90} {
		faults := ownFaults[nodes]
		acts := callAndServe(11, gives, firstNodes(faults+1)...)
		w, codes := askWorldRun(t, "called and served", nodes, nil, acts)
		call := impl.CallRecord{Client: 11, Stamp: 1, Request: request(11, 1, impl.LkAcquire, 9, "a"), Begin: 1, End: len(acts), Answer: told(impl.AnOK, 1, 11, 13+faults)}
		if slices.Max(codes) != impl.OK || !slices.Equal(w.Calls, []impl.CallRecord{call}) || w.Time != len(acts) || w.Clients[1].Busy {
			t.Errorf("%d nodes: %v, %s", nodes, codes, worldText(w))
		}
		_, codes = askWorldRun(t, "one more", nodes, nil, append(acts, giveFirst(), svReply(11, 0)))
		if !slices.Equal(codes[len(acts):], []int{impl.ErrRange, impl.ErrNone}) {
			t.Errorf("%d nodes: %v", nodes, codes)
		}
	}
}

func TestWorldRunsHaveACodeOfEachAct(t *testing.T) {
	acts := []impl.WorldAct{
		{}, {Kind: 6}, giveFirst(), svGroup(impl.GroupAct{Kind: impl.GrPropose, Request: rightRequest(1)}), svCall(9, impl.LkQuery, 0, "a"), svCall(10, impl.LkQuery, 1, "a"), svSend(10, 0, 4),
		svCall(10, impl.LkQuery, 0, "a"), svCall(10, impl.LkQuery, 0, "a"), svSend(10, 3, 4), svSend(10, 1, 4), svSend(10, 0, -1), svReply(10, 4), svReply(10, 3), svReply(10, 0),
		svLie(10, 0, firstAnswer()), svLie(10, 3, impl.Answer{}), svLie(10, 3, firstAnswer()), svSend(10, 0, 4), giveFirst(), svGroup(impl.GroupAct{Kind: impl.GrTimeout, Node: 3}),
	}
	want := []int{
		impl.ErrForm, impl.ErrForm, impl.ErrRange, impl.ErrForm, impl.ErrRange, impl.ErrForm, impl.ErrNone,
		impl.OK, impl.ErrAgain, impl.ErrSigned, impl.ErrPrimary, impl.ErrForm, impl.ErrRange, impl.ErrSigned, impl.ErrAgain,
		impl.ErrSigned, impl.ErrForm, impl.OK, impl.OK, impl.OK, impl.ErrSigned,
	}
	w, codes := askWorldRun(t, "of many codes", 4, []int{3}, acts)
	if !slices.Equal(codes, want) || w.Time != len(acts) {
		t.Errorf("WorldRun: %v, not %v", codes, want)
	}
	for _, none := range [][]impl.WorldAct{nil, {}} {
		if w, codes := askWorldRun(t, "none", 4, nil, none); len(codes) > 0 || w.Time != 0 {
			t.Errorf("WorldRun of none: %v", codes)
		}
	}
	for _, a := range acts {
		askWorldRun(t, "one", 4, []int{3}, []impl.WorldAct{a})
	}
}

func TestWorldRunsCounts(t *testing.T) {
	long := longWorldActs()[0]
	for _, count := range []int{1, 299, 300, 301, 302, 4096, 4097, 9000} {
		acts := slices.Repeat([]impl.WorldAct{giveFirst()}, count)
		want := impl.OK
		switch {
		case count > 4096:
			want = impl.ErrLong
		case count > 300:
			want = impl.ErrMany
		}
		w, codes, code := impl.WorldRun(4, []int{1}, acts)
		if code != want || code == impl.OK && (w.Time != count || !slices.Equal(codes, slices.Repeat([]int{impl.ErrRange}, count))) {
			t.Errorf("WorldRun of %d acts: %d codes, %d", count, len(codes), code)
		}
		askWorldRunAnswer(t, fmt.Sprint(count, " acts"), w, codes, code)
		// A text within an act that is too long comes behind ErrMany.
		for _, place := range []int{0, count / 2, count - 1} {
			odd := slices.Clone(acts)
			odd[place] = long
			w, codes, code := impl.WorldRun(4, []int{1}, odd)
			if code != max(want, impl.ErrLong) {
				t.Errorf("WorldRun of %d acts, a long one at %d: %d", count, place, code)
			}
			askWorldRunAnswer(t, "a long one", w, codes, code)
		}
		// Nodes that are none come ahead of both, but for lists that are too long themselves.
		for _, nodes := range []int{0, 5, -1, math.MinInt, math.MaxInt} {
			wantRange := impl.ErrRange
			if count > 4096 {
				wantRange = impl.ErrLong
			}
			w, codes, code := impl.WorldRun(nodes, nil, append(acts[:count-1:count-1], long))
			if code != wantRange {
				t.Errorf("WorldRun of %d nodes and %d acts: %d", nodes, count, code)
			}
			askWorldRunAnswer(t, "of no nodes", w, codes, code)
		}
	}
}

func TestWorldRunsCodes(t *testing.T) {
	for i, a := range longWorldActs() {
		for _, place := range []int{0, 3, 6} {
			acts := slices.Insert(slices.Repeat([]impl.WorldAct{svCall(10, 1, 1, "a")}, 6), place, a)
			w, codes, code := impl.WorldRun(7, []int{1}, acts)
			if code != impl.ErrLong {
				t.Errorf("WorldRun with long act %d: %d", i, code)
			}
			askWorldRunAnswer(t, "a long one", w, codes, code)
		}
	}
	for _, faulty := range [][]int{{1, 2}, {4}, {-1}, {0, 0}, {3, 1}, make([]int, 4096), make([]int, 4097)} {
		want := impl.ErrRange
		if len(faulty) > 4096 {
			want = impl.ErrLong
		}
		for _, count := range []int{0, 1, 300, 301} {
			w, codes, code := impl.WorldRun(4, faulty, slices.Repeat([]impl.WorldAct{longWorldActs()[0]}, count))
			if code != want {
				t.Errorf("WorldRun of %d Faulty: %d, not %d", len(faulty), code, want)
			}
			askWorldRunAnswer(t, "of other Faulty", w, codes, code)
		}
	}
}
