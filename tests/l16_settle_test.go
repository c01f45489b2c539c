package tests

import (
	"fmt"
	"math"
	"slices"
	"testing"

	"loop.example/g00292/impl"
)

// settle gives the first parcel so often, on the tests' own groups.
func (x *ownWorld) settle(rounds int) {
	for ; rounds > 0 && len(x.group.wire) > 0; rounds-- {
		x.group.do(impl.GroupAct{Kind: impl.GrGive})
	}
}

// askSettled holds Settle of a right world to the model, and to what it leaves alone.
func askSettled(t *testing.T, what string, w impl.World, rounds int) impl.World {
	t.Helper()
	ahead := copyWorld(w)
	x := ownWorldOf(w)
	x.settle(rounds)
	got, code := impl.Settle(w, rounds)
	what = fmt.Sprint("Settle, ", what, ", rounds ", rounds)
	if code != impl.OK {
		t.Errorf("%s: %d:\n%s", what, code, worldText(w))
	}
	askSameWorld(t, what, got, x.world())
	askSameWorld(t, what+", its argument", w, ahead)
	if got.Time != w.Time || !slices.EqualFunc(got.Clients, w.Clients, sameClient) || !slices.Equal(got.Calls, w.Calls) {
		t.Errorf("%s: Time, Clients or Calls are others:\n%s", what, worldText(got))
	}
	return got
}

func askNotSettled(t *testing.T, what string, w impl.World, rounds, wantCode int) {
	t.Helper()
	got, code := impl.Settle(w, rounds)
	if code != wantCode || !sameWorld(got, impl.World{}) {
		t.Errorf("Settle, %s, rounds %d: %d, not %d:\n%s", what, rounds, code, wantCode, worldText(got))
	}
}

// calledWorld has one call on its way: the primary has proposed it, nothing was given.
func calledWorld(t *testing.T, nodes int, faulty ...int) impl.World {
	t.Helper()
	s := &stage{t, freshWorld(nodes, faulty...)}
	s.do(svCall(10, impl.LkAcquire, 9, "door"), impl.OK)
	for primary := range nodes {
		if !slices.Contains(faulty, primary) {
			s.do(svSend(10, primary, 4), impl.OK)
			break
		}
		for node := range nodes { // a primary that lies is given up
			if !slices.Contains(faulty, node) {
				s.do(svGroup(impl.GroupAct{Kind: impl.GrTimeout, Node: node}), impl.OK)
			}
		}
		s.giveAll()
	}
	return s.w
}

// wrongWorlds are right but for one thing, or have nothing.
func wrongWorlds() []impl.World {
	list := []impl.World{{}, {Group: freshGroup(4)}, {Clients: freshWorld(4).Clients}, {Time: 301}}
	for _, breaks := range []func(w *impl.World){
		func(w *impl.World) { w.Time = 301 }, func(w *impl.World) { w.Time = -1 }, func(w *impl.World) { w.Time = 0 },
		func(w *impl.World) { w.Clients = w.Clients[:2] }, func(w *impl.World) { w.Clients[2].Id = 13 }, func(w *impl.World) { w.Clients[0].Busy = !w.Clients[0].Busy },
		func(w *impl.World) { w.Calls = w.Calls[1:] }, func(w *impl.World) { w.Calls[0].Begin = 0 }, func(w *impl.World) { w.Calls[0].Request.Name = "" },
		func(w *impl.World) { w.Group.Nodes = 5 }, func(w *impl.World) { w.Group.Faulty = []int{0, 1, 2} }, func(w *impl.World) { w.Group.Replicas = w.Group.Replicas[1:] },
		func(w *impl.World) { w.Group.Replicas[0].Id = 1 }, func(w *impl.World) { w.Group.Replicas[0].View = 21 }, func(w *impl.World) { w.Group.Replicas[0].Log = []string{""} },
		func(w *impl.World) { w.Group.Wire = parcels(w.Group.Nodes, 401) }, func(w *impl.World) { w.Group.Wire = []impl.Parcel{{To: 0}} },
		func(w *impl.World) {
			w.Group.Wire = []impl.Parcel{{To: w.Group.Nodes, Message: prepare(0, 0, 1, null)}}
		}, func(w *impl.World) { w.Group.Sent = []impl.Message{{}} },
	} {
		for _, w := range []impl.World{servedWorld(freshGroup(1), [3]int{1, 1, 0}, [3]bool{true, false, false}), servedWorld(busyGroup(4, 2, 1), [3]int{2, 1, 3}, [3]bool{false, true, false})} {
			w = copyWorld(w)
			breaks(&w)
			list = append(list, w)
		}
	}
	return list
}

// A world that is not right comes ahead of rounds that are out of their bounds.
func TestSettleWrongWorlds(t *testing.T) {
	for i, w := range wrongWorlds() {
		if impl.WorldOK(w) {
			t.Fatalf("world %d is right: %s", i, worldText(w))
		}
		for _, rounds := range append(edges(0, 1000), 2, 500) {
			askNotSettled(t, fmt.Sprint("wrong world ", i), w, rounds, impl.ErrBad)
		}
	}
}

func TestSettleRounds(t *testing.T) {
	for i, w := range append(someWorlds(), calledWorld(t, 4), calledWorld(t, 7, 2, 5)) {
		for _, rounds := range append(edges(0, 1000), 2, 500, 1<<32+5, math.MinInt+5) {
			if rounds < 0 || rounds > 1000 {
				askNotSettled(t, fmt.Sprint("world ", i), w, rounds, impl.ErrRange)
			} else {
				askSettled(t, fmt.Sprint("world ", i), w, rounds)
			}
		}
	}
}

func TestSettleNothing(t *testing.T) {
	for _, w := range someWorlds() {
		w.Group.Wire = nil
		for _, rounds := range []int{0, 1, 999, 1000} {
			askSameWorld(t, "nothing on its way", askSettled(t, "nothing on its way", w, rounds), w)
		}
	}
	for _, w := range someWorlds() {
		askSameWorld(t, "no rounds", askSettled(t, "no rounds", w, 0), w)
	}
}

// One call at 4 nodes comes to 27 parcels, at 7 to 90; each number of rounds up to these, and beyond.
func TestSettleACall(t *testing.T) {
	for nodes, parcels := range map[int]int{1: 0, 4: 27, 7: 90} {
		w := calledWorld(t, nodes)
		first := len(w.Group.Wire)
		step := w
		for rounds := range parcels + 4 {
			got := askSettled(t, fmt.Sprint(nodes, " nodes"), w, rounds)
			askSameWorld(t, fmt.Sprint(nodes, " nodes, step by step, ", rounds), got, step)
			if left := len(got.Group.Wire) > 0; left != (rounds < parcels) {
				t.Errorf("%d nodes, %d rounds: %d parcels are left", nodes, rounds, len(got.Group.Wire))
			}
			if rounds < parcels {
				g, code := impl.GroupStep(step.Group, impl.GroupAct{Kind: impl.GrGive})
				if code != impl.OK {
					t.Fatal(code)
				}
				step = impl.World{Group: g, Clients: step.Clients, Calls: step.Calls, Time: step.Time}
			}
		}
		if parcels > 0 && first >= parcels {
			t.Errorf("%d nodes: no parcel sent others", nodes)
		}
		all := askSettled(t, "all", w, 1000)
		for id, r := range all.Group.Replicas {
			if want := proposedBody(nodes, 4, request(10, 1, impl.LkAcquire, 9, "door")); !slices.Equal(r.Log, []string{want}) {
				t.Errorf("%d nodes: the log of node %d is %q", nodes, id, r.Log)
			}
		}
		askSameWorld(t, "given again", askSettled(t, "given again", all, 1000), all)
	}
}

// So many rounds and then others are as many as both.
func TestSettleOnAndOn(t *testing.T) {
	for i, w := range []impl.World{calledWorld(t, 4), calledWorld(t, 4, 3), calledWorld(t, 4, 0), calledWorld(t, 7, 0, 1), calledWorld(t, 7, 4, 6)} {
		for _, split := range [][2]int{{0, 5}, {1, 1}, {3, 20}, {11, 2}, {13, 300}, {40, 41}, {500, 500}} {
			one := askSettled(t, fmt.Sprint("called ", i), w, split[0])
			both := askSettled(t, fmt.Sprint("called ", i), one, split[1])
			askSameWorld(t, fmt.Sprint("called ", i, ", ", split), askSettled(t, fmt.Sprint("called ", i), w, split[0]+split[1]), both)
		}
		all := askSettled(t, fmt.Sprint("called ", i), w, 1000)
		if len(all.Group.Wire) > 0 || len(ownLongest(all.Group)) != 1 {
			t.Errorf("called %d: %s", i, worldText(all))
		}
		askSameWorld(t, fmt.Sprint("called ", i, ", given again"), askSettled(t, "again", all, 1000), all)
	}
}

// Parcels to a faulty node go, and come to nothing.
func TestSettleFaultyNodes(t *testing.T) {
	for _, w := range []impl.World{freshWorld(4, 2), freshWorld(7, 2, 5)} {
		w.Group.Wire = slices.DeleteFunc(parcels(w.Group.Nodes, 60), func(p impl.Parcel) bool { return !slices.Contains(w.Group.Faulty, p.To) })
		count := len(w.Group.Wire)
		for rounds := range count + 2 {
			got := askSettled(t, "to faulty nodes alone", w, rounds)
			want := copyWorld(w)
			want.Group.Wire = want.Group.Wire[min(rounds, count):]
			askSameWorld(t, "to faulty nodes alone", got, want)
		}
	}
}

// Parcels that their nodes do not take go all the same: twice, of other views, without a right form.
func TestSettleWhatIsNotTaken(t *testing.T) {
	w := calledWorld(t, 4)
	wire := slices.Clone(w.Group.Wire)
	for _, odd := range [][]impl.Parcel{
		slices.Concat(wire, wire, wire), append(parcels(4, 40), wire...), {{To: 1, Message: prepare(2, 5, 1, null)}}, {{To: 0, Message: signed(3, impl.Message{Kind: impl.PbViewChange, View: 1, Body: "x"})}},
		{{To: 2, Message: proposed(1, 0, 1, null)}}, {{To: 2, Message: signed(1, impl.Message{Kind: impl.PbNewView, View: 1, Body: "x"})}}, {{To: 0, Message: prepare(0, 0, 1, null)}, {To: 0, Message: prepare(0, 0, 1, null)}},
	} {
		w.Group.Wire = odd
		for _, rounds := range []int{1, 2, len(odd) - 1, len(odd), 1000} {
			askSettled(t, "not taken", w, max(0, rounds))
		}
		if left := askSettled(t, "not taken", w, 1000).Group.Wire; len(left) > 0 {
			t.Errorf("%d are left of %d", len(left), len(odd))
		}
	}
}

// A full wire loses what finds no room; more than 1000 parcels are not all given.
func TestSettleFullWires(t *testing.T) {
	for _, nodes := range nodeCounts {
		w := freshWorld(nodes)
		w.Group.Wire = parcels(nodes, 400)
		for _, rounds := range []int{0, 1, 399, 400, 401, 1000} {
			askSettled(t, fmt.Sprint(nodes, " nodes, a full wire"), w, rounds)
		}
	}
	w := freshWorld(7)
	for seq := 1; seq <= 8; seq++ {
		for node := 1; node < 7; node++ {
			w.Group.Wire = append(w.Group.Wire, impl.Parcel{To: node, Message: proposed(0, 0, seq, proposedBody(7, seq, request(10, seq, impl.LkQuery, 0, "a")))})
		}
	}
	w.Group.Wire = append(w.Group.Wire, w.Group.Wire...)
	for _, rounds := range []int{50, 200, 600, 999, 1000} {
		askSettled(t, "many on their way", w, rounds)
	}
}

// A world at its last Time does no act any more, but is settled.
func TestSettleAtTheLastTime(t *testing.T) {
	for _, now := range []int{2, 150, 299, 300} {
		w := calledWorld(t, 4)
		w.Time = now
		if got := askSettled(t, "late", w, 1000); len(got.Group.Replicas[3].Log) != 1 || got.Time != now {
			t.Errorf("Time %d: %s", now, worldText(got))
		}
	}
}

// Worlds that no run leads to, and such as runs among liars lead to: as the model has it, and logs that agree still do.
func TestSettleDrawnWorlds(t *testing.T) {
	tally := map[string]int{}
	for run := range 200 {
		d := &drawn{seed: uint64(1610000 + 80*run)}
		w := drawWorld(d, nodeCounts[run%3])
		rounds := []int{0, 1, 2, 5, 9, 20, 400, 1000}[d.below(8)]
		got := askSettled(t, fmt.Sprint("drawn ", run), w, rounds)
		tally[fmt.Sprint("left ", len(got.Group.Wire) > 0)]++
	}
	if tally["left true"] < 20 || tally["left false"] < 20 {
		t.Error(tally)
	}
}

func TestSettleAmongLiars(t *testing.T) {
	tallies := make([]map[string]int, 12)
	t.Run("runs", func(t *testing.T) {
		for run := range tallies {
			tallies[run] = map[string]int{}
			t.Run(fmt.Sprint(run), func(t *testing.T) {
				t.Parallel()
				b := newBustle(uint64(1620000+500*run), []int{4, 7, 4, 1}[run%4])
				for range 12 {
					for range 5 + b.below(20) {
						b.w, _ = impl.WorldStep(b.w, b.next())
					}
					askAgree(t, "ahead", b.w)
					rounds := []int{3, 30, 1000}[b.below(3)]
					next := askSettled(t, fmt.Sprint("run ", run), b.w, rounds)
					askAgree(t, "behind", next)
					for id, r := range next.Group.Replicas {
						if ahead := b.w.Group.Replicas[id].Log; len(r.Log) < len(ahead) || !slices.Equal(r.Log[:len(ahead)], ahead) {
							t.Errorf("run %d: the log of node %d was %q, is %q", run, id, ahead, r.Log)
						}
						tallies[run]["logged"] += len(r.Log) - len(b.w.Group.Replicas[id].Log)
					}
					b.w = next
				}
			})
		}
	})
	if total := addTallies(tallies); total["logged"] < 100 {
		t.Error(total)
	}
}

// askAgree holds that correct nodes agree.
func askAgree(t *testing.T, what string, w impl.World) {
	t.Helper()
	logs, logsCode := impl.LogsAgree(w.Group)
	certs, certsCode := impl.CertsAgree(w.Group)
	if !logs || !certs || max(logsCode, certsCode) != impl.OK || !impl.WorldOK(w) {
		t.Fatalf("%s: logs agree %v %d, certificates %v %d:\n%s", what, logs, logsCode, certs, certsCode, worldText(w))
	}
}
