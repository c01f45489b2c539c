package tests

import (
	"fmt"
	"math"
	"slices"
	"strings"
	"testing"

	"loop.example/g00292/impl"
)

// askWorldAct holds an act to its code and to how the world is behind it: one Time later, else as it was, but for what changes makes of it.
func askWorldAct(t *testing.T, what string, w impl.World, a impl.WorldAct, wantCode int, changes func(w *impl.World)) impl.World {
	t.Helper()
	ahead, want := copyWorld(w), copyWorld(w)
	want.Time++
	if changes != nil {
		changes(&want)
	}
	got, code := impl.WorldStep(w, a)
	if code != wantCode {
		t.Errorf("%s, kind %d, client %d, node %d, N %d: %d, not %d", what, a.Kind, a.Client, a.Node, a.N, code, wantCode)
	}
	askSameWorld(t, fmt.Sprint(what, ", kind ", a.Kind, ", client ", a.Client, ", node ", a.Node, ", N ", a.N), got, want)
	askSameWorld(t, what+", its argument", w, ahead)
	if !impl.WorldOK(got) {
		t.Errorf("%s, kind %d: not right any more:\n%s", what, a.Kind, worldText(got))
	}
	return got
}

// askNotDone is askWorldAct of a code with which nothing changes but Time.
func askNotDone(t *testing.T, what string, w impl.World, a impl.WorldAct, wantCode int) {
	t.Helper()
	askWorldAct(t, what, w, a, wantCode, nil)
}

func svGroup(a impl.GroupAct) impl.WorldAct { return impl.WorldAct{Kind: impl.SvGroup, Group: a} }

func svCall(client, op, lease int, name string) impl.WorldAct {
	return impl.WorldAct{Kind: impl.SvCall, Client: client, Op: op, Lease: lease, Name: name}
}

func svSend(client, node, now int) impl.WorldAct {
	return impl.WorldAct{Kind: impl.SvSend, Client: client, Node: node, N: now}
}

func svReply(client, node int) impl.WorldAct {
	return impl.WorldAct{Kind: impl.SvReply, Client: client, Node: node}
}

func svLie(client, node int, a impl.Answer) impl.WorldAct {
	return impl.WorldAct{Kind: impl.SvLie, Client: client, Node: node, Answer: a}
}

func giveFirst() impl.WorldAct { return svGroup(impl.GroupAct{Kind: impl.GrGive}) }

// openWorlds have room for acts: someWorlds but those at their last Time.
func openWorlds() []impl.World {
	return slices.DeleteFunc(someWorlds(), func(w impl.World) bool { return w.Time == 300 })
}

// actsOfAnyKind are some of each kind, done and not, for a world of these nodes.
func actsOfAnyKind(nodes int) []impl.WorldAct {
	list := append(someWorldActs(), giveFirst(), svCall(10, impl.LkAcquire, 0, "a"), svCall(11, 9, 0, ""), svGroup(impl.GroupAct{Kind: 9}), svGroup(impl.GroupAct{Kind: impl.GrTwice, N: -1}))
	for node := -1; node <= nodes; node++ {
		list = append(list, svSend(10, node, 4), svReply(11, node), svLie(12, node, firstAnswer()), svLie(10, node, impl.Answer{}))
	}
	for _, kind := range []int{-1, 0, 6, 9, math.MinInt, math.MaxInt} {
		list = append(list, impl.WorldAct{Kind: kind, Client: 10, Op: impl.LkQuery, Name: "a", Answer: firstAnswer()})
	}
	return list
}

func TestWorldActsOfOtherKinds(t *testing.T) {
	for _, w := range openWorlds() {
		for _, kind := range append(edges(1, 5), 6, 7, 9, 256+1, 256+2, 1<<32+3, math.MinInt+4) {
			if kind >= 1 && kind <= 5 {
				continue
			}
			for _, a := range []impl.WorldAct{svCall(10, impl.LkQuery, 0, "a"), svSend(11, 0, 4), svReply(99, -1), svLie(12, 0, impl.Answer{}), svGroup(impl.GroupAct{Kind: impl.GrTimeout}), {}} {
				a.Kind = kind
				askNotDone(t, "another kind", w, a, impl.ErrForm)
			}
		}
	}
}

// At the last Time no act is done, whatever it is, and Time stays.
func TestWorldActsAtTheLastTime(t *testing.T) {
	for _, w := range someWorlds() {
		for _, a := range actsOfAnyKind(w.Group.Nodes) {
			x := copyWorld(w)
			x.Time = 300
			askWorldAct(t, "at the last Time", x, a, impl.ErrFull, func(w *impl.World) { w.Time = 300 })
			if len(w.Calls) >= 299 {
				continue
			}
			_, wantCode := impl.WorldStep(w, a)
			x.Time = 299
			got, code := impl.WorldStep(x, a)
			if code != wantCode || got.Time != 300 || !impl.WorldOK(got) {
				t.Errorf("at the last Time but one, kind %d: %d, not %d, Time %d", a.Kind, code, wantCode, got.Time)
			}
		}
	}
}

// Every act takes a Time, done or not: 300 of them, then none.
func TestWorldsComeToAnEnd(t *testing.T) {
	for _, a := range []impl.WorldAct{{}, giveFirst(), svCall(13, 1, 1, "a"), svGroup(impl.GroupAct{Kind: impl.GrPropose}), svReply(10, 0)} {
		w := freshWorld(4)
		for now := 1; now <= 303; now++ {
			next, code := impl.WorldStep(w, a)
			if next.Time != min(now, 300) || (code == impl.ErrFull) != (now > 300) || code == impl.OK {
				t.Fatalf("kind %d, act %d: Time %d, %d", a.Kind, now, next.Time, code)
			}
			w = next
		}
		askSameWorld(t, "nothing but Time", w, func() impl.World { x := freshWorld(4); x.Time = 300; return x }())
	}
}

// What a group does in a world is what it does by itself, with its codes; Client, Node and the rest say nothing.
func TestGroupsActInWorlds(t *testing.T) {
	tally := map[int]int{}
	for i, base := range openWorlds() {
		for k, g := range append(memoryGroups(), base.Group) {
			if g.Nodes != base.Group.Nodes {
				continue
			}
			w := copyWorld(base)
			w.Group = g
			for _, a := range append(actsOf(g), impl.GroupAct{Kind: 7}, impl.GroupAct{Kind: -1}, impl.GroupAct{Kind: impl.GrInject, Node: 1, N: g.Nodes}) {
				want, wantCode := impl.GroupStep(g, a)
				if wantCode == impl.ErrLong {
					continue
				}
				if a.Kind == impl.GrPropose {
					want, wantCode = g, impl.ErrForm
				}
				for _, act := range []impl.WorldAct{svGroup(a), {Kind: impl.SvGroup, Group: a, Client: 99, Node: -9, N: 77, Op: 9, Name: "?", Answer: told(9, 9, 9, 9)}} {
					askWorldAct(t, fmt.Sprint("world ", i, ", group ", k), w, act, wantCode, func(w *impl.World) { w.Group = want })
				}
				tally[wantCode]++
			}
		}
	}
	for _, code := range []int{impl.OK, impl.ErrForm, impl.ErrRange, impl.ErrSigned, impl.ErrView} {
		if tally[code] == 0 {
			t.Errorf("%s: never", impl.CodeWord(code))
		}
	}
}

// Clients alone ask: a proposal is no act of the group's, be it right or not.
func TestGroupsDoNotProposeInWorlds(t *testing.T) {
	for _, w := range openWorlds() {
		for _, node := range []int{0, 1, w.Group.Nodes, -1} {
			for _, r := range []impl.Request{rightRequest(1), request(10, 1, impl.LkQuery, 0, "a"), {}} {
				askNotDone(t, "a proposal", w, svGroup(impl.GroupAct{Kind: impl.GrPropose, Node: node, N: 4, Request: r}), impl.ErrForm)
			}
		}
	}
}

func TestWorldActsOfClientsAndNodesThatAreNone(t *testing.T) {
	for _, w := range openWorlds() {
		acts := []impl.WorldAct{svCall(0, impl.LkQuery, 0, "a"), svCall(0, 9, 0, ""), svSend(0, 0, 4), svReply(0, 0), svLie(0, 0, firstAnswer()), svLie(0, 0, impl.Answer{})}
		for _, a := range acts {
			var wrong [][2]int
			for _, client := range append(edges(10, 12), 0, 7, 13, 255, 256+10, 1<<32+11) {
				wrong = append(wrong, [2]int{client, 0})
			}
			for _, node := range append(edges(0, w.Group.Nodes-1), 4, 7, 256) {
				wrong = append(wrong, [2]int{11, node})
			}
			for _, row := range wrong {
				if row[0] >= 10 && row[0] <= 12 && row[1] >= 0 && row[1] < w.Group.Nodes {
					continue
				}
				a.Client, a.Node = row[0], row[1]
				if _, code := impl.WorldStep(w, a); code != impl.ErrRange {
					t.Errorf("kind %d, client %d, node %d of %d: %d", a.Kind, a.Client, a.Node, w.Group.Nodes, code)
				}
			}
			for _, row := range [][2]int{{9, 0}, {13, 0}, {10, w.Group.Nodes}, {12, -1}, {math.MinInt, math.MaxInt}} {
				a.Client, a.Node = row[0], row[1]
				askNotDone(t, "no such client or node", w, a, impl.ErrRange)
			}
		}
	}
}

// recorded is what a call that is taken changes.
func recorded(at int, r impl.Request) func(w *impl.World) {
	return func(w *impl.World) {
		w.Clients[at].Stamp, w.Clients[at].Busy, w.Clients[at].Request = r.Stamp, true, r
		w.Calls = append(w.Calls, impl.CallRecord{Client: callerAt(at), Stamp: r.Stamp, Request: r, Begin: w.Time, End: -1})
	}
}

func TestCallsInWorlds(t *testing.T) {
	for _, w := range openWorlds() {
		for at, c := range w.Clients {
			for kind := -1; kind <= 5; kind++ {
				for _, lease := range []int{-1, 0, 1, 1000, 1001, math.MaxInt} {
					for _, name := range []string{"a", strings.Repeat("b", 12), "", "1", strings.Repeat("b", 13), strings.Repeat("a", impl.MaxText)} {
						a := svCall(c.Id, kind, lease, name)
						a.Node, a.N = (at+kind+1)%w.Group.Nodes, lease
						_, wantCode := ownCall(w.Group.Nodes, c, kind, name, lease)
						if wantCode == impl.OK {
							askWorldAct(t, "a call", w, a, impl.OK, recorded(at, request(c.Id, c.Stamp+1, kind, lease, name)))
							continue
						}
						got, code := impl.WorldStep(w, a)
						w.Time++
						if code != wantCode || !sameWorld(got, w) {
							t.Errorf("a call of client %d, %d %.20q %d: %d, not %d", c.Id, kind, name, lease, code, wantCode)
						}
						w.Time--
					}
				}
			}
		}
	}
}

func TestCallsInWorldsKnown(t *testing.T) {
	w := freshWorld(4, 3)
	w = askWorldAct(t, "the first call", w, svCall(11, impl.LkAcquire, 9, "a"), impl.OK, recorded(1, request(11, 1, impl.LkAcquire, 9, "a")))
	askNotDone(t, "a Busy client", w, svCall(11, impl.LkAcquire, 9, "a"), impl.ErrAgain)
	askNotDone(t, "a Busy client, ahead of what it asks", w, svCall(11, 9, -1, ""), impl.ErrAgain)
	askNotDone(t, "what it asks", w, svCall(12, impl.LkAcquire, 0, "a"), impl.ErrForm)
	w = askWorldAct(t, "of another one", w, svCall(10, impl.LkQuery, 0, "b"), impl.OK, recorded(0, request(10, 1, impl.LkQuery, 0, "b")))
	want := []impl.CallRecord{
		{Client: 11, Stamp: 1, Request: request(11, 1, impl.LkAcquire, 9, "a"), Begin: 1, End: -1},
		{Client: 10, Stamp: 1, Request: request(10, 1, impl.LkQuery, 0, "b"), Begin: 2, End: -1},
	}
	if !slices.Equal(w.Calls, want) || len(w.Group.Wire)+len(w.Group.Sent) > 0 {
		t.Errorf("calls: %v", w.Calls)
	}
}

// A world that was put together with MaxScript calls and Time left records one more: no code is told of that. It is too much for a right world.
func TestCallsBeyondMaxScript(t *testing.T) {
	for _, count := range []int{299, 300} {
		w := servedWorld(freshGroup(4), [3]int{count, 0, 0}, [3]bool{})
		for i := range w.Calls {
			w.Calls[i].Begin, w.Calls[i].End = 1, 1
		}
		w.Time = 1
		askWorld(t, fmt.Sprint(count, " calls"), w, true)
		want := copyWorld(w)
		want.Time = 2
		recorded(1, request(11, 1, impl.LkQuery, 0, "a"))(&want)
		got, code := impl.WorldStep(w, svCall(11, impl.LkQuery, 0, "a"))
		if code != impl.OK {
			t.Errorf("behind %d calls: %d", count, code)
		}
		askSameWorld(t, fmt.Sprint("behind ", count, " calls"), got, want)
		askWorld(t, fmt.Sprint(count+1, " calls"), got, count < 300)
	}
}

// A client that is not Busy is told ahead of all that the act has wrong besides.
func TestActsOfClientsThatAreNotBusy(t *testing.T) {
	for _, w := range openWorlds() {
		for _, c := range w.Clients {
			if c.Busy {
				continue
			}
			for node := range w.Group.Nodes {
				for _, now := range []int{0, -1, 1000001} {
					askNotDone(t, "not Busy", w, svSend(c.Id, node, now), impl.ErrNone)
				}
				askNotDone(t, "not Busy", w, svReply(c.Id, node), impl.ErrNone)
				askNotDone(t, "not Busy", w, svLie(c.Id, node, firstAnswer()), impl.ErrNone)
				askNotDone(t, "not Busy", w, svLie(c.Id, node, impl.Answer{}), impl.ErrNone)
			}
		}
	}
}

// askSent holds SvSend to what the group does of its proposal.
func askSent(t *testing.T, what string, w impl.World, at, node, now, wantCode int) impl.World {
	t.Helper()
	a := impl.GroupAct{Kind: impl.GrPropose, Node: node, N: now, Request: w.Clients[at].Request}
	want, code := impl.GroupStep(w.Group, a)
	if code != wantCode {
		t.Errorf("%s: GroupStep %d, not %d", what, code, wantCode)
	}
	return askWorldAct(t, what, w, svSend(callerAt(at), node, now), wantCode, func(w *impl.World) { w.Group = want })
}

func TestSendsInWorlds(t *testing.T) {
	for _, nodes := range nodeCounts {
		for at := range 3 {
			var open [3]bool
			open[at] = true
			faulty := []int{1, 2}[:ownFaults[nodes]]
			w := servedWorld(freshGroup(nodes, faulty...), [3]int{1, 1, 1}, open)
			for _, now := range []int{0, 1, 4, 999999, 1000000} {
				x := askSent(t, "the primary", w, at, 0, now, impl.OK)
				if nodes == 1 && !slices.Equal(x.Group.Replicas[0].Log, []string{proposedBody(1, now, w.Clients[at].Request)}) {
					t.Errorf("%d nodes: %s", nodes, groupText(x.Group))
				}
			}
			for _, now := range []int{-1, 1000001, math.MinInt, math.MaxInt} {
				askSent(t, "a time that is none", w, at, 0, now, impl.ErrForm)
			}
			for _, node := range faulty {
				for _, now := range []int{4, -1} {
					askSent(t, "a Faulty one", w, at, node, now, impl.ErrSigned)
				}
			}
			for node := 1 + len(faulty); node < nodes; node++ {
				askSent(t, "not the primary", w, at, node, 4, impl.ErrPrimary)
				askSent(t, "not the primary, at no time", w, at, node, -1, impl.ErrForm)
			}
			for id := range nodes {
				w.Group.Replicas[id].View = nodes - 1
			}
			askSent(t, "the primary of another view", w, at, nodes-1, 4, impl.OK)
			w.Group.Replicas[nodes-1].Active = false
			askSent(t, "one that is not active", w, at, nodes-1, 4, impl.ErrPrimary)
		}
	}
}

// A client may send again, as long as there is a place, and to whom it likes: the batch is proposed each time.
func TestSendsAgain(t *testing.T) {
	w := servedWorld(freshGroup(4), [3]int{0, 1, 0}, [3]bool{false, true, false})
	for again := range 8 {
		w = askSent(t, fmt.Sprint("sent again ", again), w, 1, 0, 4+again, impl.OK)
	}
	askSent(t, "no place left", w, 1, 0, 4, impl.ErrFull)
	full := servedWorld(busyGroup(4, 2), [3]int{0, 1, 0}, [3]bool{false, true, false})
	full.Group.Wire, full.Group.Sent = parcels(4, 400), manySent(4, 4096)
	for id := range 4 {
		full.Group.Replicas[id] = inView(4, id, 2, true)
	}
	askSent(t, "a full wire", full, 1, 2, 4, impl.OK)
}

// hears is what a client changes that hears a reply.
func hears(at int, r impl.Reply) func(w *impl.World) {
	return func(w *impl.World) {
		nodes := w.Group.Nodes
		ahead := w.Clients[at]
		next, code := ownTake(nodes, ahead, r)
		if code != impl.OK {
			return
		}
		w.Clients[at] = next
		if next.Busy {
			return
		}
		for i, call := range w.Calls {
			if call.Client == next.Id && call.Stamp == next.Stamp {
				w.Calls[i].End, w.Calls[i].Answer = w.Time, next.Accepted[len(next.Accepted)-1]
			}
		}
	}
}

func TestLiesInWorlds(t *testing.T) {
	lie := told(impl.AnFull, 0, -1, 0)
	for _, nodes := range []int{4, 7} {
		for _, faulty := range [][]int{{0}, {nodes - 1}, {1, 3}, nil} {
			if len(faulty) > ownFaults[nodes] {
				continue
			}
			w := servedWorld(freshGroup(nodes, faulty...), [3]int{2, 1, 4}, [3]bool{true, true, true})
			for at, c := range w.Clients {
				for node := range nodes {
					if !slices.Contains(faulty, node) {
						askNotDone(t, "one that does not lie", w, svLie(c.Id, node, lie), impl.ErrSigned)
						askNotDone(t, "one that does not lie, no answer", w, svLie(c.Id, node, impl.Answer{}), impl.ErrSigned)
						continue
					}
					for _, a := range someAnswers() {
						askWorldAct(t, "a lie", w, svLie(c.Id, node, a), impl.OK, hears(at, reply(node, c.Id, c.Stamp, a)))
					}
					for _, f := range replyFields()[3:] {
						for _, n := range f.numbers() {
							r := reply(node, c.Id, c.Stamp, lie)
							*f.at(&r) = n
							if n < f.least || n > f.most {
								askNotDone(t, fmt.Sprint(f.name, " ", n), w, svLie(c.Id, node, r.Answer), impl.ErrForm)
							} else {
								askWorldAct(t, fmt.Sprint(f.name, " ", n), w, svLie(c.Id, node, r.Answer), impl.OK, hears(at, marked(r)))
							}
						}
					}
					askNotDone(t, "no answer", w, svLie(c.Id, node, impl.Answer{}), impl.ErrForm)
				}
			}
		}
	}
}

// A liar may say a thing again and again, and other things, until there is no room; f of them decide nothing.
func TestLiesFillAClient(t *testing.T) {
	lies := []impl.Answer{told(impl.AnFull, 0, -1, 0), told(impl.AnOK, 1, 11, 99), told(impl.AnOK, 2, 11, 99)}
	for _, nodes := range []int{4, 7} {
		faulty := []int{2, 5}[:ownFaults[nodes]]
		w := servedWorld(freshGroup(nodes, faulty...), [3]int{0, 2, 0}, [3]bool{false, true, false})
		for i := range 40 {
			node, a := faulty[i%len(faulty)], lies[i/2%3]
			w = askWorldAct(t, "a lie", w, svLie(11, node, a), impl.OK, hears(1, reply(node, 11, 2, a)))
		}
		if !w.Clients[1].Busy || len(w.Clients[1].Replies) != 40 {
			t.Fatalf("%d nodes: %s", nodes, worldText(w))
		}
		for _, a := range lies {
			askNotDone(t, "no room", w, svLie(11, faulty[0], a), impl.ErrFull)
		}
		askNotDone(t, "no answer ahead of no room", w, svLie(11, faulty[0], impl.Answer{}), impl.ErrForm)
		for node := range nodes {
			if slices.Contains(faulty, node) {
				continue
			}
			askNotDone(t, "not in its log ahead of no room", w, svReply(11, node), impl.ErrAgain)
			w.Group.Replicas[node].Log = []string{proposedBody(nodes, 4, w.Clients[1].Request)}
			askNotDone(t, "no room for the truth", w, svReply(11, node), impl.ErrFull)
		}
	}
}
