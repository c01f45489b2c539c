package tests

import (
	"fmt"
	"slices"
	"testing"

	"loop.example/g00292/impl"
)

// loggedWorld has, in the logs of all nodes, these bodies; its clients called as servedWorld's.
func loggedWorld(nodes int, faulty []int, counts [3]int, open [3]bool, log ...string) impl.World {
	w := servedWorld(freshGroup(nodes, faulty...), counts, open)
	for id := range nodes {
		w.Group.Replicas[id].Log = slices.Clone(log)
	}
	return w
}

// askReplied holds SvReply to a client that hears this answer.
func askReplied(t *testing.T, what string, w impl.World, at, node int, a impl.Answer) impl.World {
	t.Helper()
	return askWorldAct(t, what, w, svReply(callerAt(at), node), impl.OK, hears(at, reply(node, callerAt(at), w.Clients[at].Stamp, a)))
}

// A node replies when its log has the call: of that client and of that Stamp, whatever else the log has.
func TestRepliesOfLogs(t *testing.T) {
	for _, nodes := range nodeCounts {
		faulty := []int{0, 2}[:ownFaults[nodes]]
		w := servedWorld(freshGroup(nodes, faulty...), [3]int{2, 2, 1}, [3]bool{true, false, true})
		w.Time = 30
		log := func(asked ...impl.Request) []string {
			var list []string
			for i, r := range asked {
				list = append(list, proposedBody(nodes, 10*i, r))
			}
			return list
		}
		mine, early, late := w.Clients[0].Request, request(10, 1, impl.LkQuery, 0, "door"), request(10, 3, impl.LkQuery, 0, "door")
		other := request(11, 2, impl.LkAcquire, 500, "door")
		median := ownFaults[nodes] // of readings that rise by one, node by node
		for _, row := range []struct {
			log  []string
			want impl.Answer
		}{
			{nil, impl.Answer{}}, {[]string{null, null}, impl.Answer{}}, {log(early), impl.Answer{}}, {log(late), impl.Answer{}}, {log(other), impl.Answer{}}, {log(early, other, late), impl.Answer{}},
			{log(mine), told(impl.AnOK, 1, 10, 30+median)},
			{log(early, mine), told(impl.AnOK, 1, 10, 40+median)},
			{log(other, mine), told(impl.AnWait, 1, 11, 500+median)},
			{append([]string{null, null}, log(mine)...), told(impl.AnOK, 1, 10, 30+median)},
			{log(mine, mine, mine), told(impl.AnOK, 1, 10, 30+median)},
			{log(mine, late, mine), told(impl.AnOK, 1, 10, 30+median)},
			{log(late, mine), told(impl.AnOld, 0, -1, 0)},
			{log(late, mine, mine), told(impl.AnOld, 0, -1, 0)},
			{log(request(10, 2, impl.LkQuery, 0, "x"), mine), told(impl.AnNone, 0, -1, 0)},
			{log(mine, request(10, 2, impl.LkQuery, 0, "x")), told(impl.AnOK, 1, 10, 30+median)},
		} {
			for node := range nodes {
				x := copyWorld(w)
				x.Group.Replicas[node].Log = row.log
				what := fmt.Sprint(nodes, " nodes, node ", node, ", a log of ", len(row.log))
				switch {
				case slices.Contains(faulty, node):
					askNotDone(t, what+", Faulty", x, svReply(10, node), impl.ErrSigned)
				case row.want == impl.Answer{}:
					askNotDone(t, what+", without the call", x, svReply(10, node), impl.ErrAgain)
				default:
					askReplied(t, what, x, 0, node, row.want)
				}
				askNotDone(t, what+", not Busy", x, svReply(11, node), impl.ErrNone)
				for other := range nodes {
					if other != node && !slices.Contains(faulty, other) {
						askNotDone(t, what+", another's log", x, svReply(10, other), impl.ErrAgain)
					}
				}
			}
		}
	}
}

// f + 1 nodes decide: the call ends at that Time with the answer, and what comes behind it finds no call.
func TestRepliesEndCalls(t *testing.T) {
	for _, nodes := range nodeCounts {
		faults := ownFaults[nodes]
		for at := range 3 {
			open := [3]bool{true, true, true}
			r := request(callerAt(at), 2, impl.LkAcquire, 30, "door")
			w := loggedWorld(nodes, nil, [3]int{2, 2, 2}, open, proposedBody(nodes, 4, r))
			w.Time = 50
			a := told(impl.AnOK, 1, callerAt(at), 34+faults)
			for node := range faults {
				for range 3 {
					w = askReplied(t, "one of f", w, at, node, a)
				}
				if !w.Clients[at].Busy {
					t.Fatalf("%d nodes: %d decide", nodes, node+1)
				}
			}
			now := w.Time + 1
			w = askReplied(t, "the one that decides", w, at, nodes-1, a)
			for i, call := range w.Calls {
				if mine := call.Client == callerAt(at) && call.Stamp == 2; mine && (call.End != now || call.Answer != a) || !mine && call.End == now {
					t.Errorf("%d nodes, call %d of %d: %v", nodes, i, callerAt(at), call)
				}
			}
			if c := w.Clients[at]; c.Busy || len(c.Accepted) != 2 || c.Accepted[1] != a {
				t.Errorf("%d nodes: %s", nodes, clientText(c))
			}
			for node := range nodes {
				askNotDone(t, "behind it", w, svReply(callerAt(at), node), impl.ErrNone)
				askNotDone(t, "behind it", w, svLie(callerAt(at), node, a), impl.ErrNone)
				askNotDone(t, "behind it", w, svSend(callerAt(at), node, 4), impl.ErrNone)
			}
			askWorldAct(t, "the next call", w, svCall(callerAt(at), impl.LkQuery, 0, "door"), impl.OK, recorded(at, request(callerAt(at), 3, impl.LkQuery, 0, "door")))
		}
	}
}

// A lie counts as any reply does: with f liars and one that speaks the truth alike it is decided.
func TestLiesThatAgreeWithTheTruth(t *testing.T) {
	for _, nodes := range []int{4, 7} {
		faulty := []int{1, 3}[:ownFaults[nodes]]
		r := request(12, 1, impl.LkAcquire, 30, "door")
		w := loggedWorld(nodes, faulty, [3]int{0, 0, 1}, [3]bool{false, false, true}, proposedBody(nodes, 4, r))
		truth := told(impl.AnOK, 1, 12, 34+ownFaults[nodes])
		for _, node := range faulty {
			w = askWorldAct(t, "a liar tells the truth", w, svLie(12, node, truth), impl.OK, hears(2, reply(node, 12, 1, truth)))
			w = askWorldAct(t, "and lies", w, svLie(12, node, thirdAnswer()), impl.OK, hears(2, reply(node, 12, 1, thirdAnswer())))
		}
		last := askReplied(t, "the truth", w, 2, 0, truth)
		if last.Clients[2].Busy || last.Calls[0].End != last.Time || last.Calls[0].Answer != truth {
			t.Errorf("%d nodes: %s", nodes, worldText(last))
		}
	}
}

// stage is a world in which acts are done one by one.
type stage struct {
	t *testing.T
	w impl.World
}

func (s *stage) do(a impl.WorldAct, want int) {
	s.t.Helper()
	next, code := impl.WorldStep(s.w, a)
	if code != want || next.Time != s.w.Time+1 || !impl.WorldOK(next) {
		s.t.Fatalf("kind %d, client %d, node %d: %d, not %d:\n%s", a.Kind, a.Client, a.Node, code, want, worldText(next))
	}
	s.w = next
}

// giveAll gives what lies on the wire; what comes late or again tells a code.
func (s *stage) giveAll() {
	s.t.Helper()
	for len(s.w.Group.Wire) > 0 {
		next, code := impl.WorldStep(s.w, giveFirst())
		if !slices.Contains([]int{impl.OK, impl.ErrView, impl.ErrTwice}, code) {
			s.t.Fatalf("a parcel: %d", code)
		}
		s.w = next
	}
}

// ask calls, sends to the primary and lets the first nodes that do not lie reply.
func (s *stage) ask(client, op, lease int, name string, now int, want impl.Answer) {
	s.t.Helper()
	s.do(svCall(client, op, lease, name), impl.OK)
	primary := s.w.Group.Replicas[0].View % s.w.Group.Nodes
	s.do(svSend(client, primary, now), impl.OK)
	s.giveAll()
	for node := range s.w.Group.Nodes {
		if !slices.Contains(s.w.Group.Faulty, node) && s.w.Clients[client-10].Busy {
			s.do(svReply(client, node), impl.OK)
		}
	}
	accepted := s.w.Clients[client-10].Accepted
	if len(accepted) == 0 || s.w.Clients[client-10].Busy || accepted[len(accepted)-1] != want {
		s.t.Fatalf("client %d was told %v, not %v", client, accepted, want)
	}
}

// Three clients and a lock: it is granted, waited for, let go, runs out; a view is given up in between.
func TestServiceStory(t *testing.T) {
	for _, nodes := range []int{1, 4} {
		faulty, f := []int{3}[:ownFaults[nodes]], ownFaults[nodes]
		s := &stage{t, freshWorld(nodes, faulty...)}
		s.ask(10, impl.LkAcquire, 20, "door", 0, told(impl.AnOK, 1, 10, 20+f))
		s.ask(11, impl.LkAcquire, 30, "door", 5, told(impl.AnWait, 1, 10, 20+f))
		if nodes > 1 {
			for node := range 3 {
				s.do(svGroup(impl.GroupAct{Kind: impl.GrTimeout, Node: node}), impl.OK)
			}
			s.giveAll()
		}
		s.ask(10, impl.LkRelease, 0, "door", 8, told(impl.AnOK, 2, 11, 38+f))
		s.ask(12, impl.LkQuery, 0, "door", 37, told(impl.AnHeld, 2, 11, 38+f))
		s.ask(12, impl.LkRenew, 9, "door", 38, told(impl.AnFree, 2, -1, 0))
		var ends []int
		for i, call := range s.w.Calls {
			if call.End < call.Begin || i > 0 && call.Begin <= ends[i-1] {
				t.Errorf("%d nodes: %v", nodes, s.w.Calls)
			}
			ends = append(ends, call.End)
		}
		if len(ends) != 5 || len(s.w.Group.Replicas[0].Log) != 5 {
			t.Errorf("%d nodes: %s", nodes, worldText(s.w))
		}
	}
}

// What is told again: a call that was sent twice is in the log twice; every node tells it as at its first place, though the client's lock is gone by then.
func TestServiceTellsAgain(t *testing.T) {
	for _, nodes := range nodeCounts {
		s := &stage{t, freshWorld(nodes)}
		f := ownFaults[nodes]
		s.do(svCall(10, impl.LkAcquire, 5, "door"), impl.OK)
		s.do(svSend(10, 0, 0), impl.OK)
		s.do(svSend(10, 0, 100), impl.OK)
		if nodes < 7 {
			s.do(svSend(10, 0, 200), impl.OK)
		}
		s.giveAll()
		truth := told(impl.AnOK, 1, 10, 5+f)
		for node := range nodes {
			log := s.w.Group.Replicas[node].Log
			if a, code := impl.NodeAnswer(nodes, log, 10, 1); a != truth || code != impl.OK || len(log) < 2 {
				t.Fatalf("%d nodes, node %d: %v %d", nodes, node, a, code)
			}
			if node < f {
				for range 4 {
					s.do(svReply(10, node), impl.OK)
				}
			}
		}
		if !slices.Equal(s.w.Clients[0].Accepted, nil) && nodes > 1 {
			t.Fatalf("%d nodes: decided by f", nodes)
		}
		s.do(svReply(10, f), impl.OK)
		if c := s.w.Calls[0]; c.End != s.w.Time || c.Answer != truth || !slices.Equal(s.w.Clients[0].Accepted, []impl.Answer{truth}) {
			t.Errorf("%d nodes: %v", nodes, s.w.Calls)
		}
		for node := range nodes {
			s.do(svReply(10, node), impl.ErrNone)
		}
	}
}

func TestWorldsThatAreNotRight(t *testing.T) {
	wrong := []impl.World{{}, {Group: freshGroup(4)}}
	for _, breaks := range []func(w *impl.World){
		func(w *impl.World) { w.Time = 301 }, func(w *impl.World) { w.Time = -1 }, func(w *impl.World) { w.Group.Nodes = 5 },
		func(w *impl.World) { w.Clients[2].Id = 13 }, func(w *impl.World) { w.Calls = []impl.CallRecord{callRecord(10, 1, 1, 1)} },
	} {
		w := freshWorld(4, 3)
		breaks(&w)
		wrong = append(wrong, w)
	}
	for i, w := range wrong {
		for _, a := range append(actsOfAnyKind(4), svGroup(impl.GroupAct{Kind: 99})) {
			got, code := impl.WorldStep(w, a)
			if code != impl.ErrBad || !sameWorld(got, impl.World{}) {
				t.Errorf("world %d, kind %d: %d, %s", i, a.Kind, code, worldText(got))
			}
		}
	}
}

// longWorldActs have one text each that is too long, in acts of every kind, whether it says anything there or not.
func longWorldActs() []impl.WorldAct {
	var list []impl.WorldAct
	for kind := range 7 {
		list = append(list, impl.WorldAct{Kind: kind, Client: 10, Op: impl.LkQuery, Name: longText(), Answer: firstAnswer()})
		for _, a := range longActs() {
			list = append(list, impl.WorldAct{Kind: kind, Client: 10, Op: impl.LkQuery, Name: "a", Answer: firstAnswer(), Group: a})
		}
	}
	return list
}

// A text that is too long comes ahead of all else: of a world that is not right, and of one at its last Time.
func TestWorldActsOfLongTexts(t *testing.T) {
	last := freshWorld(4)
	last.Time = 300
	for i, a := range longWorldActs() {
		for _, w := range []impl.World{freshWorld(1), last, servedWorld(freshGroup(4), [3]int{1, 0, 0}, [3]bool{true, false, false}), {}, {Time: 301}} {
			got, code := impl.WorldStep(w, a)
			if code != impl.ErrLong || !sameWorld(got, impl.World{}) {
				t.Errorf("long act %d: %d, %s", i, code, worldText(got))
			}
		}
		for _, text := range []*string{&a.Name, &a.Group.Request.Name, &a.Group.Message.Digest, &a.Group.Message.Body, &a.Group.Message.Mac} {
			*text = (*text)[:min(len(*text), impl.MaxText)]
		}
		got, code := impl.WorldStep(freshWorld(1), a)
		if code == impl.ErrLong || got.Time != 1 {
			t.Errorf("act %d, no longer than it may be: %d", i, code)
		}
	}
	deep := freshWorld(4)
	deep.Group.Replicas[0].Log = []string{longText()}
	if got, code := impl.WorldStep(deep, giveFirst()); code != impl.ErrBad || !sameWorld(got, impl.World{}) {
		t.Errorf("a long text within the world: %d", code)
	}
}
