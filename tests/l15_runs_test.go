package tests

import (
	"fmt"
	"slices"
	"testing"

	"loop.example/g00292/impl"
)

// askTold holds the longest log of a world to promise 16: its times never fall, its grants rise by their tokens.
func askTold(t *testing.T, what string, w impl.World) []impl.Grant {
	t.Helper()
	log, _ := impl.LongestLog(w.Group)
	times, code := impl.LogTimes(w.Group.Nodes, log)
	if code != impl.OK || len(times) != len(log) || !slices.IsSorted(times) {
		t.Fatalf("%s: times %v %d", what, times, code)
	}
	grants, code := impl.LogGrants(w.Group.Nodes, log)
	if code != impl.OK || !slices.Equal(grants, ownLogGrants(log)) {
		t.Fatalf("%s: grants %v %d, not %v", what, grants, code, ownLogGrants(log))
	}
	askRising(t, what, grants)
	return grants
}

// chronicle is a service whose history is looked at all the way.
type chronicle struct {
	*bustle
	logged int
	grants []impl.Grant
}

// askOneHistory holds promises 15 and 16 of a world, and that grants stay.
func (x *chronicle) askOneHistory(t *testing.T, what string) {
	t.Helper()
	if right, code := impl.HistoryOK(x.w); !right || code != impl.OK || !ownHistory(x.w.Calls, ownLongest(x.w.Group)) {
		t.Fatalf("%s: HistoryOK %v %d:\n%s", what, right, code, worldText(x.w))
	}
	if size := len(ownLongest(x.w.Group)); size > x.logged {
		now := askTold(t, what, x.w)
		if len(now) < len(x.grants) || !slices.Equal(now[:len(x.grants)], x.grants) {
			t.Fatalf("%s: grants %v, and %v ahead", what, now, x.grants)
		}
		x.logged, x.grants = size, now
	}
}

// act does a drawn act of any kind.
func (x *chronicle) act(t *testing.T, what string, a impl.WorldAct) {
	t.Helper()
	next, code := impl.WorldStep(x.w, a)
	x.w = next
	x.askOneHistory(t, fmt.Sprintf("%s, at %d, %d %d %d: %d", what, next.Time, a.Kind, a.Client, a.Node, code))
}

// ofClients draws what a client does: it calls whenever it can, mostly sends but what no log has yet, and hears replies, true ones and lies.
func (x *chronicle) ofClients() impl.WorldAct {
	client := 10 + x.below(3)
	c := x.w.Clients[client-10]
	if !c.Busy {
		op := []int{impl.LkAcquire, impl.LkAcquire, impl.LkRelease, impl.LkRenew, impl.LkQuery}[x.below(5)]
		return svCall(client, op, op%2*(1+x.below(40)), []string{"a", "b"}[x.below(2)])
	}
	node := x.below(x.g.Nodes)
	_, code := impl.PlaceOf(ownLongest(x.w.Group), c.Id, c.Stamp)
	switch y := x.below(10); {
	case y < 5 && code != impl.OK, y < 1:
		return svSend(client, x.w.Group.Replicas[node].View%x.g.Nodes, x.w.Time)
	case slices.Contains(x.g.Faulty, node):
		return svLie(client, node, drawAnswer(x.drawn))
	}
	return svReply(client, node)
}

// move draws an act of a group that mostly gives what comes first, and gives its primary up when it is stuck.
func (x *chronicle) move() (impl.GroupAct, bool) {
	x.g = x.w.Group
	if len(x.later) > 0 && x.below(2) == 0 {
		a := x.later[0]
		x.later = x.later[1:]
		return a, true
	}
	n := x.below(min(len(x.g.Wire)+1, x.reach))
	switch y := x.below(100); {
	case y < 2 && len(x.g.Faulty) > 0:
		return x.lie(), true
	case len(x.g.Wire) == 0 && len(x.later) == 0 && x.stuck() && x.below(6) == 0, y == 2 && x.below(20) == 0:
		x.giveUpTogether()
		return impl.GroupAct{Kind: impl.GrGive, N: n}, true
	case y < 3+x.loss/2:
		return impl.GroupAct{Kind: impl.GrDrop, N: n}, len(x.g.Wire) > 0
	case y < 10:
		return impl.GroupAct{Kind: impl.GrTwice, N: n}, len(x.g.Wire) > 0 && len(x.g.Wire) < 200
	}
	return impl.GroupAct{Kind: impl.GrGive, N: n}, len(x.g.Wire) > 0
}

// giveUpTogether lets all that do not lie give up the views up to the highest one, so that the next one can be begun.
func (x *chronicle) giveUpTogether() {
	most := 0
	for _, r := range x.honest() {
		most = max(most, r.View)
	}
	for _, r := range x.honest() {
		for range most + 1 - r.View {
			x.later = append(x.later, impl.GroupAct{Kind: impl.GrTimeout, Node: r.Id})
		}
	}
}

// stuck tells whether the primary does not propose: it lies, or the view did not begin.
func (x *chronicle) stuck() bool {
	first := x.honest()[0]
	return !first.Active || slices.Contains(x.g.Faulty, first.View%x.g.Nodes)
}

// rush moves the group on while no Time goes by, as a console does, so that there is room for more calls in a run.
func (x *chronicle) rush(most int) {
	for range most {
		a, done := x.move()
		if !done {
			break
		}
		x.w.Group, _ = impl.GroupStep(x.w.Group, a)
	}
}

// askSpoilt changes a right history so that it is none any more: an answer, a request, or the times of calls that follow one another.
func (x *chronicle) askSpoilt(t *testing.T, what string, tally map[string]int) {
	t.Helper()
	for i, call := range x.w.Calls {
		if call.End == -1 {
			tally["under way"]++
			continue
		}
		tally["ended"]++
		odd := copyWorld(x.w)
		odd.Calls[i].Answer.Expiry++
		askHistory(t, what+", another answer", odd, false)
		odd = copyWorld(x.w)
		odd.Calls[i].Request.Name += "x"
		askHistory(t, what+", another request", odd, false)
		for k, other := range x.w.Calls {
			switch {
			case other.End == -1 || k == i:
			case call.End < other.Begin:
				tally["one by one"]++
				odd := copyWorld(x.w)
				odd.Calls[i].Begin, odd.Calls[i].End, odd.Calls[k].Begin, odd.Calls[k].End = other.Begin, other.End, call.Begin, call.End
				askHistory(t, what+", times changed", odd, false)
			case other.End >= call.Begin:
				tally["at once"]++
			}
		}
	}
}

func (x *chronicle) run(t *testing.T, what string, tally map[string]int) {
	t.Helper()
	for x.w.Time < 120 {
		switch y := x.below(20); {
		case y == 0:
			x.act(t, what, x.next())
		case y < 4:
			if a, done := x.move(); done {
				x.act(t, what, svGroup(a))
			}
		default:
			x.act(t, what, x.ofClients())
		}
		if x.below(3) == 0 {
			x.rush(x.below(10 * x.g.Nodes))
			x.askOneHistory(t, what+", behind a rush")
		}
	}
	tally["logged"] += x.logged
	tally["grants"] += len(x.grants)
	tally["calls"] += len(x.w.Calls)
	for _, r := range x.w.Group.Replicas {
		tally["views"] += r.View
	}
	x.askSpoilt(t, what, tally)
}

// Promises 15 and 16: whatever comes, and whatever at most f nodes say, but not in the clients' names, answers are those of one history.
func TestHistoriesAmongLiars(t *testing.T) {
	tallies := make([]map[string]int, 24)
	t.Run("runs", func(t *testing.T) {
		for run := range tallies {
			tallies[run] = map[string]int{}
			t.Run(fmt.Sprint(run), func(t *testing.T) {
				t.Parallel()
				x := &chronicle{bustle: newBustle(uint64(1500000+800*run), []int{4, 1, 4, 7, 4, 4, 4, 4}[run%8])}
				x.run(t, fmt.Sprint("run ", run), tallies[run])
			})
		}
	})
	total := addTallies(tallies)
	for _, word := range []string{"logged", "grants", "ended", "under way", "one by one", "at once", "views"} {
		if total[word] < 20 {
			t.Errorf("the runs came by %q but %d times", word, total[word])
		}
	}
}
