package tests

import (
	"fmt"
	"slices"
	"testing"

	"loop.example/g00292/impl"
)

// ownHistory holds each call that ended to a log, and to each other one.
func ownHistory(calls []impl.CallRecord, log []string) bool {
	asked, answers := ownAnswers(log)
	place := func(call impl.CallRecord) int {
		return slices.IndexFunc(asked, func(r impl.Request) bool { return r.Client == call.Client && r.Stamp == call.Stamp && r.Kind != 0 })
	}
	ended := slices.DeleteFunc(slices.Clone(calls), func(call impl.CallRecord) bool { return call.End == -1 })
	for _, call := range ended {
		at := place(call)
		if at < 0 || asked[at] != call.Request || answers[at] != call.Answer {
			return false
		}
		for _, other := range ended {
			if other.End < call.Begin && place(other) >= at {
				return false
			}
		}
	}
	return true
}

// askHistory holds HistoryOK of a right world to an answer, and the tests' own one, too.
func askHistory(t *testing.T, what string, w impl.World, want bool) {
	t.Helper()
	ahead := copyWorld(w)
	if !impl.WorldOK(w) {
		t.Fatalf("%s: the world is not right: %s", what, worldText(w))
	}
	if own := ownHistory(w.Calls, ownLongest(w.Group)); own != want {
		t.Fatalf("%s: the tests disagree: %v: %s", what, own, worldText(w))
	}
	if got, code := impl.HistoryOK(w); got != want || code != impl.OK {
		t.Errorf("HistoryOK, %s: %v %d, not %v:\n%s", what, got, code, want, worldText(w))
	}
	askSameWorld(t, "HistoryOK, "+what+", its argument", w, ahead)
}

// calledIn is a call as a log has it: what it asks and is answered at its first place. Without a place it asks, and is answered, something.
func calledIn(log []string, client, stamp, begin, end int) impl.CallRecord {
	call := callRecord(client, stamp, begin, end)
	asked, _ := ownAnswers(log)
	for _, r := range slices.Backward(asked) {
		if r.Kind != 0 && r.Client == client && r.Stamp == stamp {
			call.Request = r
			call.Answer, _ = ownNodeAnswer(log, client, stamp)
		}
	}
	return call
}

// historyWorld has this log in all nodes; its clients made these calls, each one's own by their Stamps.
func historyWorld(nodes int, faulty []int, log []string, calls ...impl.CallRecord) impl.World {
	var counts [3]int
	var open [3]bool
	for _, call := range calls {
		counts[call.Client-10]++
		open[call.Client-10] = call.End == -1
	}
	w := loggedWorld(nodes, faulty, counts, open, log...)
	w.Calls, w.Time = calls, 300
	return w
}

// acquires are a log in which these clients ask for door, each one again under its next Stamp.
func acquires(nodes int, clients ...int) []string {
	var log []string
	stamps := map[int]int{}
	for i, client := range clients {
		if client < 0 {
			log = append(log, null)
			continue
		}
		stamps[client]++
		log = append(log, proposedBody(nodes, 3*i, request(client, stamps[client], impl.LkAcquire, 100, "door")))
	}
	return log
}

func TestHistoriesOfWrongWorlds(t *testing.T) {
	wrong := []impl.World{{}, {Group: freshGroup(4)}, {Clients: freshWorld(4).Clients}, {Time: 301}}
	for _, breaks := range []func(w *impl.World){
		func(w *impl.World) { w.Time = 301 }, func(w *impl.World) { w.Time = -1 }, func(w *impl.World) { w.Time = 0 }, func(w *impl.World) { w.Group.Nodes = 5 }, func(w *impl.World) { w.Group.Nodes = 7 },
		func(w *impl.World) { w.Clients[2].Id = 13 }, func(w *impl.World) { w.Clients = w.Clients[:2] }, func(w *impl.World) { w.Clients[0].Stamp = 2 },
		func(w *impl.World) { w.Calls = append(w.Calls, callRecord(11, 1, 1, 1)) }, func(w *impl.World) { w.Calls = w.Calls[1:] }, func(w *impl.World) { w.Calls[0].Begin = 0 },
		func(w *impl.World) { w.Calls[0].End = -1 }, func(w *impl.World) { w.Calls[0].End = -2 }, func(w *impl.World) { w.Calls[0].Stamp = 2 }, func(w *impl.World) { w.Calls[0].Request.Lease = 0 },
		func(w *impl.World) { w.Group.Replicas[1].Log = []string{"x"} }, func(w *impl.World) { w.Group.Replicas[3].Log = slices.Repeat([]string{null}, 9) },
		func(w *impl.World) { w.Group.Replicas[2].Log[0] = longText() }, func(w *impl.World) { w.Group.Faulty = []int{0, 1} }, func(w *impl.World) { w.Group.Wire = []impl.Parcel{{}} },
		func(w *impl.World) { w.Calls = slices.Repeat(w.Calls, 301) }, func(w *impl.World) { w.Calls = slices.Repeat(w.Calls, 5000) },
	} {
		log := acquires(4, 10)
		w := historyWorld(4, []int{3}, log, calledIn(log, 10, 1, 1, 2))
		askHistory(t, "ahead of a change", w, true)
		breaks(&w)
		wrong = append(wrong, w)
	}
	for i, w := range wrong {
		ahead := copyWorld(w)
		if got, code := impl.HistoryOK(w); got || code != impl.ErrBad {
			t.Errorf("wrong world %d: %v %d", i, got, code)
		}
		askSameWorld(t, "HistoryOK, its argument", w, ahead)
	}
}

func TestHistoriesOfNoCalls(t *testing.T) {
	for _, nodes := range nodeCounts {
		askHistory(t, "a new world", freshWorld(nodes), true)
		for _, log := range [][]string{nil, {null, null}, acquires(nodes, 10, 11, 12), acquires(nodes, 3, -1, 10)} {
			askHistory(t, "no calls", historyWorld(nodes, nil, log), true)
			w := historyWorld(nodes, nil, log)
			w.Calls = []impl.CallRecord{}
			askHistory(t, "an empty list", w, true)
		}
	}
}

// Nothing is asked of calls under way: whether they have places, what they ask there, and where.
func TestHistoriesOfCallsUnderWay(t *testing.T) {
	for _, nodes := range nodeCounts {
		for _, log := range [][]string{nil, {null}, acquires(nodes, 10, 11, 12), acquires(nodes, 12, 11), acquires(nodes, 10, 10, 10), {proposedBody(nodes, 4, request(10, 1, impl.LkQuery, 0, "other"))}} {
			for set := range 8 {
				var calls []impl.CallRecord
				for at := range 3 {
					if set>>at&1 == 1 {
						calls = append(calls, callRecord(callerAt(at), 1, 9-at, -1))
					}
				}
				askHistory(t, fmt.Sprint("under way ", set), historyWorld(nodes, nil, log, calls...), true)
			}
		}
		log := acquires(nodes, 11, 10)
		first := calledIn(log, 10, 1, 5, 6)
		askHistory(t, "one that ended, one that would be wrong", historyWorld(nodes, nil, log, first, callRecord(11, 1, 200, -1)), true)
		askHistory(t, "and when it ended", historyWorld(nodes, nil, log, first, calledIn(log, 11, 1, 200, 201)), false)
		open := callRecord(11, 1, 1, -1)
		open.Answer = told(9, -9, -9, -9)
		askHistory(t, "an answer of one under way", historyWorld(nodes, nil, log, first, open), true)
	}
}

func TestHistoriesOfCallsWithoutAPlace(t *testing.T) {
	for _, nodes := range nodeCounts {
		for i, log := range [][]string{nil, {null}, slices.Repeat([]string{null}, 8), acquires(nodes, 11, 12), acquires(nodes, 9, -1, 13), {proposedBody(nodes, 4, request(10, 2, impl.LkAcquire, 30, "door"))}} {
			call := callRecord(10, 1, 1, 2)
			askHistory(t, fmt.Sprint("log ", i), historyWorld(nodes, nil, log, call), false)
			// What a log that has it not could be thought to answer.
			for _, a := range []impl.Answer{{}, told(impl.AnNone, 0, -1, 0)} {
				call.Answer = a
				askHistory(t, fmt.Sprint("log ", i, ", answer ", a), historyWorld(nodes, nil, log, call), false)
			}
		}
		log := acquires(nodes, 10, 11)
		calls := []impl.CallRecord{calledIn(log, 10, 1, 1, 2), calledIn(log, 11, 1, 1, 3), calledIn(log, 10, 2, 5, 6)}
		askHistory(t, "a third one without a place", historyWorld(nodes, nil, log, calls...), false)
		askHistory(t, "those that have places", historyWorld(nodes, nil, log, calls[:2]...), true)
		calls[2].End = -1
		askHistory(t, "a third one under way", historyWorld(nodes, nil, log, calls...), true)
	}
	// As many calls as a world may have, and a log that has but some of them.
	log := acquires(4, 10, 10, 10, 10, 10, 10, 10, 10)
	var many []impl.CallRecord
	for stamp := 1; stamp <= 300; stamp++ {
		many = append(many, calledIn(log, 10, stamp, 1, 300))
	}
	askHistory(t, "300 calls", historyWorld(4, nil, log, many...), false)
	askHistory(t, "8 calls", historyWorld(4, nil, log, many[:8]...), true)
	askHistory(t, "9 calls", historyWorld(4, nil, log, many[:9]...), false)
}

// The place must have the call's own Request, also where another one is answered alike.
func TestHistoriesOfOtherRequests(t *testing.T) {
	for _, nodes := range nodeCounts {
		base := request(10, 1, impl.LkAcquire, 100, "door")
		for i, r := range []impl.Request{
			request(10, 1, impl.LkAcquire, 101, "door"), request(10, 1, impl.LkAcquire, 99, "door"), request(10, 1, impl.LkRenew, 100, "door"), request(10, 1, impl.LkAcquire, 100, "Door"),
			request(10, 1, impl.LkAcquire, 100, "doors"), request(10, 1, impl.LkRelease, 0, "door"), request(10, 1, impl.LkQuery, 0, "door"),
		} {
			log := []string{null, proposedBody(nodes, 4, r)}
			call := calledIn(log, 10, 1, 1, 2)
			askHistory(t, fmt.Sprint("its own ", i), historyWorld(nodes, nil, log, call), true)
			call.Request = base
			askHistory(t, fmt.Sprint("another one ", i), historyWorld(nodes, nil, log, call), false)
			both := append(slices.Clone(log), proposedBody(nodes, 4, base))
			askHistory(t, fmt.Sprint("its own at a later place ", i), historyWorld(nodes, nil, both, call), false)
			call.Answer = calledIn([]string{proposedBody(nodes, 4, base)}, 10, 1, 1, 2).Answer
			askHistory(t, fmt.Sprint("its own at a later place, and that one's answer ", i), historyWorld(nodes, nil, both, call), false)
			slices.Reverse(both)
			askHistory(t, fmt.Sprint("its own at the first place ", i), historyWorld(nodes, nil, both, calledIn(both, 10, 1, 1, 2)), true)
		}
		// Requests that are told the same of a lock that is not there.
		for _, kind := range []int{impl.LkRelease, impl.LkQuery} {
			for _, name := range []string{"a", "b"} {
				log := []string{proposedBody(nodes, 4, request(11, 1, kind, 0, name))}
				call := callRecord(11, 1, 1, 2)
				call.Request, call.Answer = request(11, 1, impl.LkQuery, 0, "a"), told(impl.AnNone, 0, -1, 0)
				askHistory(t, fmt.Sprint("told the same, ", kind, name), historyWorld(nodes, nil, log, call), kind == impl.LkQuery && name == "a")
			}
		}
	}
}

func TestHistoriesOfOtherAnswers(t *testing.T) {
	fields := []func(a *impl.Answer) *int{
		func(a *impl.Answer) *int { return &a.Kind }, func(a *impl.Answer) *int { return &a.Token }, func(a *impl.Answer) *int { return &a.Holder }, func(a *impl.Answer) *int { return &a.Expiry },
	}
	for _, nodes := range nodeCounts {
		log := append(acquires(nodes, 10, -1, 11, 12, 10, 12), proposedBody(nodes, 200, request(11, 2, impl.LkRelease, 0, "door")))
		calls := []impl.CallRecord{calledIn(log, 10, 1, 1, 9), calledIn(log, 11, 1, 1, 9), calledIn(log, 12, 1, 1, 9), calledIn(log, 10, 2, 1, 9), calledIn(log, 12, 2, 1, 9), calledIn(log, 11, 2, 1, 9)}
		askHistory(t, "all as the log tells", historyWorld(nodes, nil, log, calls...), true)
		for i := range calls {
			for k, field := range fields {
				for _, add := range []int{-1, 1, 256, 1 << 32} {
					odd := slices.Clone(calls)
					*field(&odd[i].Answer) += add
					askHistory(t, fmt.Sprint("call ", i, ", field ", k, " by ", add), historyWorld(nodes, nil, log, odd...), false)
				}
			}
			for k := range i {
				odd := slices.Clone(calls)
				odd[i].Answer, odd[k].Answer = odd[k].Answer, odd[i].Answer
				askHistory(t, fmt.Sprint("answers of ", i, " and ", k, " changed places"), historyWorld(nodes, nil, log, odd...), odd[i].Answer == odd[k].Answer)
			}
			odd := slices.Clone(calls)
			odd[i].Answer = impl.Answer{}
			askHistory(t, fmt.Sprint("call ", i, ", no answer"), historyWorld(nodes, nil, log, odd...), false)
		}
	}
}

// What the client itself accepted is not asked: the record tells it.
func TestHistoriesAskTheRecords(t *testing.T) {
	log := acquires(4, 10, 11)
	w := historyWorld(4, nil, log, calledIn(log, 10, 1, 1, 2), calledIn(log, 11, 1, 3, 4))
	for _, a := range someAnswers() {
		w.Clients[0].Accepted = []impl.Answer{a}
		askHistory(t, "another one accepted", w, true)
	}
}

// Two calls that follow one another, or overlap, at places in both orders.
func TestHistoriesOfTwoCalls(t *testing.T) {
	for _, nodes := range nodeCounts {
		for _, gap := range []int{0, 1, 6} { // Null batches between
			between := slices.Repeat([]int{-1}, gap)
			straight := acquires(nodes, append(append([]int{10}, between...), 11)...)
			crossed := acquires(nodes, append(append([]int{11}, between...), 10)...)
			for _, row := range []struct {
				begin, end, otherBegin, otherEnd int
				follows                          bool // the second one begins when the first one is over
			}{
				{1, 2, 3, 4, true}, {1, 1, 2, 2, true}, {1, 5, 6, 7, true}, {1, 5, 300, 300, true}, {10, 19, 20, 30, true}, {1, 299, 300, 300, true},
				{10, 20, 20, 30, false}, {10, 21, 20, 30, false}, {10, 20, 19, 30, false}, {1, 1, 1, 1, false}, {7, 7, 7, 7, false}, {10, 10, 10, 30, false}, {10, 30, 30, 30, false},
				{10, 20, 15, 16, false}, {15, 16, 10, 20, false}, {10, 20, 10, 20, false}, {1, 300, 1, 300, false}, {1, 300, 300, 300, false},
			} {
				for _, turned := range []bool{false, true} {
					world := func(log []string) impl.World {
						calls := []impl.CallRecord{calledIn(log, 10, 1, row.begin, row.end), calledIn(log, 11, 1, row.otherBegin, row.otherEnd)}
						if turned { // the order in which the records stand tells nothing
							slices.Reverse(calls)
						}
						return historyWorld(nodes, nil, log, calls...)
					}
					what := fmt.Sprint(row, " turned ", turned)
					askHistory(t, what+", in their order", world(straight), true)
					askHistory(t, what+", crossed", world(crossed), !row.follows)
				}
			}
		}
	}
}

// One client's calls may follow one another in a log that has them crossed; the earlier one is old there.
func TestHistoriesOfOneClient(t *testing.T) {
	for _, nodes := range nodeCounts {
		first, second := proposedBody(nodes, 4, request(12, 1, impl.LkAcquire, 100, "door")), proposedBody(nodes, 5, request(12, 2, impl.LkQuery, 0, "door"))
		for _, row := range []struct {
			log          []string
			end, begin   int
			straightOnly bool
		}{
			{[]string{first, second}, 4, 5, false}, {[]string{second, first}, 4, 5, true}, {[]string{second, first}, 5, 5, false}, {[]string{second, first}, 6, 5, false},
			{[]string{null, first, null, second, null}, 4, 5, false}, {[]string{null, second, null, first, second}, 4, 5, true}, {[]string{first, second, first}, 4, 5, false},
		} {
			w := historyWorld(nodes, nil, row.log, calledIn(row.log, 12, 1, 1, row.end), calledIn(row.log, 12, 2, row.begin, 9))
			askHistory(t, fmt.Sprint(len(row.log), " bodies, ", row.end, " and ", row.begin), w, !row.straightOnly)
		}
	}
}

// A call that is in the log twice has its first place alone.
func TestHistoriesOfCallsThatComeAgain(t *testing.T) {
	for _, nodes := range nodeCounts {
		a, b := proposedBody(nodes, 4, request(10, 1, impl.LkAcquire, 100, "door")), proposedBody(nodes, 5, request(11, 1, impl.LkAcquire, 100, "door"))
		later := proposedBody(nodes, 250, request(10, 1, impl.LkAcquire, 100, "door"))
		for i, row := range []struct {
			log   []string
			first int // the client whose first place is ahead
		}{
			{[]string{a, b, a}, 10}, {[]string{a, a, b}, 10}, {[]string{b, a, a}, 11}, {[]string{b, a, b}, 11}, {[]string{a, b, b, a}, 10}, {[]string{b, b, a, a}, 11},
			{[]string{null, a, null, b, a, null, a}, 10}, {[]string{a, b, later}, 10}, {[]string{later, b, a}, 10}, {[]string{b, later, a, a}, 11},
		} {
			ask := func(what string, aBegin, aEnd, bBegin, bEnd int, want bool) {
				t.Helper()
				w := historyWorld(nodes, nil, row.log, calledIn(row.log, 10, 1, aBegin, aEnd), calledIn(row.log, 11, 1, bBegin, bEnd))
				askHistory(t, fmt.Sprint("log ", i, ", ", what), w, want)
			}
			ask("10 ahead", 1, 2, 3, 4, row.first == 10)
			ask("11 ahead", 3, 4, 1, 2, row.first == 11)
			ask("both at once", 1, 4, 2, 3, true)
		}
		// The answer is that of the first place, too.
		log := []string{later, b, a}
		call := calledIn(log, 10, 1, 1, 2)
		call.Answer = calledIn([]string{a}, 10, 1, 1, 2).Answer
		askHistory(t, "the answer of another place", historyWorld(nodes, nil, log, call), false)
	}
}

// Three clients, each call of which follows those ahead of it: any log but the one in their order is wrong.
func TestHistoriesOfSeveralClients(t *testing.T) {
	for _, nodes := range nodeCounts {
		for i, clients := range [][]int{{10, 11, 12}, {10, 12, 11}, {11, 10, 12}, {11, 12, 10}, {12, 10, 11}, {12, 11, 10}} {
			log := acquires(nodes, clients...)
			calls := func(begins, ends [3]int) []impl.CallRecord {
				var list []impl.CallRecord
				for at := range 3 {
					list = append(list, calledIn(log, callerAt(at), 1, begins[at], ends[at]))
				}
				return list
			}
			inOrder := slices.IsSorted(clients)
			askHistory(t, fmt.Sprint("order ", i, ", one by one"), historyWorld(nodes, nil, log, calls([3]int{1, 3, 5}, [3]int{2, 4, 6})...), inOrder)
			askHistory(t, fmt.Sprint("order ", i, ", all at once"), historyWorld(nodes, nil, log, calls([3]int{1, 2, 3}, [3]int{9, 8, 7})...), true)
			// The first and the last one follow one another; the second one overlaps both.
			first, last := slices.Index(clients, 10), slices.Index(clients, 12)
			askHistory(t, fmt.Sprint("order ", i, ", a chain"), historyWorld(nodes, nil, log, calls([3]int{1, 2, 4}, [3]int{3, 5, 6})...), first < last)
		}
		log := acquires(nodes, 10, 11, 10, 12, 11, 12, 10, 12)
		calls := []impl.CallRecord{
			calledIn(log, 10, 1, 1, 5), calledIn(log, 11, 1, 2, 6), calledIn(log, 12, 1, 3, 9), calledIn(log, 10, 2, 6, 7), calledIn(log, 11, 2, 7, 12),
			calledIn(log, 10, 3, 8, 14), calledIn(log, 12, 2, 10, 13), calledIn(log, 12, 3, 14, 15),
		}
		askHistory(t, "eight calls", historyWorld(nodes, nil, log, calls...), true)
		for i := range calls {
			odd := slices.Clone(calls)
			odd[i].Begin, odd[i].End = 1, 300
			askHistory(t, fmt.Sprint("call ", i, " all the time"), historyWorld(nodes, nil, log, odd...), true)
			odd[i].Begin = 300
			want := i == 7
			askHistory(t, fmt.Sprint("call ", i, " at the end"), historyWorld(nodes, nil, log, odd...), want)
		}
	}
}

// The log of a history is the longest one of the nodes that are not Faulty, the first of those that are as long.
func TestHistoriesOfDifferentLogs(t *testing.T) {
	a, b, ab, ba := acquires(4, 10), acquires(4, 11), acquires(4, 10, 11), acquires(4, 11, 10)
	for i, row := range []struct {
		faulty  []int
		logs    [4][]string
		longest []string
	}{
		{nil, [4][]string{nil, a, ab, a}, ab}, {nil, [4][]string{b, a, ba, a}, ba}, {nil, [4][]string{a, b, nil, b}, a}, {nil, [4][]string{nil, b, a, a}, b}, {nil, [4][]string{}, nil},
		{nil, [4][]string{ab, ba, ba, ba}, ab}, {nil, [4][]string{ba, ab, ab, ab}, ba}, {nil, [4][]string{a, b, ba, ab}, ba},
		{[]int{0}, [4][]string{ab, ba, ba, a}, ba}, {[]int{2}, [4][]string{a, nil, ba, a}, a}, {[]int{3}, [4][]string{nil, nil, nil, ab}, nil}, {[]int{1}, [4][]string{ab, ba, b, b}, ab},
	} {
		world := func(calls ...impl.CallRecord) impl.World {
			w := historyWorld(4, row.faulty, nil, calls...)
			for id, log := range row.logs {
				w.Group.Replicas[id].Log = log
			}
			return w
		}
		call := func(client, begin, end int) impl.CallRecord { return calledIn(row.longest, client, 1, begin, end) }
		placeA, codeA := ownPlace(row.longest, 10, 1)
		placeB, codeB := ownPlace(row.longest, 11, 1)
		hasA, hasB := codeA == impl.OK, codeB == impl.OK
		what := fmt.Sprint("logs ", i)
		askHistory(t, what+", no calls", world(), true)
		askHistory(t, what+", one call", world(call(10, 1, 2)), hasA)
		askHistory(t, what+", the other one", world(call(11, 1, 2)), hasB)
		askHistory(t, what+", one by one", world(call(10, 1, 2), call(11, 3, 4)), hasA && hasB && placeA < placeB)
		askHistory(t, what+", the other one ahead", world(call(10, 3, 4), call(11, 1, 2)), hasA && hasB && placeB < placeA)
		askHistory(t, what+", at once", world(call(10, 1, 4), call(11, 2, 3)), hasA && hasB)
	}
}

// drawHistory draws a log of eight bodies and calls that mostly are as it tells, at times that may fit it or not.
func drawHistory(d *drawn, nodes int) impl.World {
	var log []string
	var stamps [3]int
	for len(log) < 8 {
		at := d.below(3)
		kind := []int{impl.LkAcquire, impl.LkRelease, impl.LkRenew, impl.LkQuery}[d.below(4)]
		r := request(callerAt(at), stamps[at]+1, kind, kind%2*(1+d.below(20)), []string{"a", "b"}[d.below(2)])
		switch d.below(9) {
		case 0:
			log = append(log, null)
			continue
		case 1:
			r.Stamp += d.below(2) // one that comes too early, or comes again
		default:
			stamps[at]++
		}
		log = append(log, proposedBody(nodes, 3*len(log), r))
	}
	var calls []impl.CallRecord
	width := 1 + d.below(16)
	for at := range 3 {
		for stamp := 1; stamp <= stamps[at]; stamp++ {
			place, _ := ownPlace(log, callerAt(at), stamp)
			begin := max(1, 10*place+1-d.below(width))
			calls = append(calls, calledIn(log, callerAt(at), stamp, begin, begin+d.below(width)))
		}
		if last := len(calls) - 1; stamps[at] > 0 && d.below(4) == 0 {
			calls[last].End = -1
		}
	}
	w := historyWorld(nodes, drawFaulty(d, nodes), log, calls...)
	if i := d.below(len(calls)); d.below(6) == 0 {
		calls[i].Answer = drawAnswer(d)
	}
	for id := range nodes { // some lag behind, some that lie have other logs
		if slices.Contains(w.Group.Faulty, id) {
			w.Group.Replicas[id].Log = drawLog(d, nodes, d.below(9))
		} else if d.below(3) == 0 && id > 0 {
			w.Group.Replicas[id].Log = slices.Clone(log[:d.below(9)])
		}
	}
	return w
}

func TestDrawnHistories(t *testing.T) {
	tally := map[bool]int{}
	for run := range 600 {
		w := drawHistory(&drawn{seed: uint64(150000 + 20*run)}, nodeCounts[run%3])
		right := ownHistory(w.Calls, ownLongest(w.Group))
		askHistory(t, fmt.Sprint("drawn ", run), w, right)
		tally[right]++
	}
	if tally[true] < 60 || tally[false] < 60 {
		t.Errorf("the drawn histories are %v", tally)
	}
}

// A faulty primary that proposes in a client's name may spoil a history: its request stands where the client's own one would.
func TestHistoriesOfLiesInAClientsName(t *testing.T) {
	s := &stage{t, freshWorld(4, 0)}
	lie := proposedBody(4, 3, request(10, 1, impl.LkQuery, 0, "door"))
	for node := 1; node < 4; node++ {
		s.do(svGroup(impl.GroupAct{Kind: impl.GrInject, Node: 0, N: node, Message: proposed(0, 0, 1, lie)}), impl.OK)
	}
	s.giveAll()
	s.do(svCall(10, impl.LkAcquire, 30, "door"), impl.OK)
	askHistory(t, "the call is under way", s.w, true)
	s.do(svReply(10, 1), impl.OK)
	s.do(svReply(10, 2), impl.OK)
	if a := s.w.Calls[0].Answer; a != told(impl.AnNone, 0, -1, 0) {
		t.Fatalf("answered %v", a)
	}
	askHistory(t, "another one's question was answered", s.w, false)
}
