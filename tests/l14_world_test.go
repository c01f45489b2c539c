package tests

import (
	"fmt"
	"math"
	"slices"
	"testing"

	"loop.example/g00292/impl"
)

// callerAt is the number of a world's client.
func callerAt(at int) int { return 10 + at }

// freshWorld is a new world, put together here.
func freshWorld(nodes int, faulty ...int) impl.World {
	return servedWorld(freshGroup(nodes, faulty...), [3]int{}, [3]bool{})
}

// callRecord is one of an answered call, or, with an end of -1, of one that waits.
func callRecord(client, stamp, begin, end int) impl.CallRecord {
	c := impl.CallRecord{Client: client, Stamp: stamp, Request: request(client, stamp, impl.LkAcquire, 30, "door"), Begin: begin, End: end}
	if end != -1 {
		c.Answer = manyAnswers(stamp)[stamp-1]
	}
	return c
}

// servedWorld has clients that called so often, in turn, one call at a Time; where open says so the last call waits.
func servedWorld(g impl.Group, counts [3]int, open [3]bool) impl.World {
	w := impl.World{Group: g}
	for at, count := range counts {
		if open[at] {
			w.Clients = append(w.Clients, waitingClient(callerAt(at), count))
		} else {
			w.Clients = append(w.Clients, restingClient(callerAt(at), count))
		}
	}
	for stamp := 1; stamp <= slices.Max(counts[:]); stamp++ {
		for at, count := range counts {
			if stamp > count {
				continue
			}
			w.Time++
			end := w.Time
			if open[at] && stamp == count {
				end = -1
			}
			w.Calls = append(w.Calls, callRecord(callerAt(at), stamp, w.Time, end))
		}
	}
	return w
}

// someWorlds are right: new ones, and such as have called and wait.
func someWorlds() []impl.World {
	return []impl.World{
		freshWorld(1), freshWorld(4), freshWorld(4, 2), freshWorld(7, 0, 6),
		servedWorld(freshGroup(1), [3]int{1, 0, 0}, [3]bool{true, false, false}),
		servedWorld(busyGroup(4, 2, 1), [3]int{2, 1, 3}, [3]bool{false, true, false}),
		servedWorld(busyGroup(4, 5, 3), [3]int{3, 3, 3}, [3]bool{true, true, true}),
		servedWorld(busyGroup(7, 3, 0, 6), [3]int{0, 4, 1}, [3]bool{false, true, false}),
		servedWorld(freshGroup(4), [3]int{100, 100, 100}, [3]bool{}),
		servedWorld(freshGroup(7), [3]int{0, 300, 0}, [3]bool{false, true, false}),
	}
}

func copyWorld(w impl.World) impl.World {
	w.Group, w.Clients, w.Calls = copyGroup(w.Group), slices.Clone(w.Clients), slices.Clone(w.Calls)
	for at, c := range w.Clients {
		w.Clients[at] = copyOfClient(c)
	}
	return w
}

// sameWorld takes empty lists and nil for the same.
func sameWorld(a, b impl.World) bool {
	return a.Time == b.Time && slices.EqualFunc(a.Clients, b.Clients, sameClient) && slices.Equal(a.Calls, b.Calls) && sameGroup(a.Group, b.Group)
}

func worldText(w impl.World) string {
	text := fmt.Sprintf("time %d, %d clients, %d calls", w.Time, len(w.Clients), len(w.Calls))
	for _, c := range w.Clients[:min(4, len(w.Clients))] {
		text += "\n\t" + clientText(c)
	}
	for _, c := range w.Calls[:min(9, len(w.Calls))] {
		text += fmt.Sprintf("\n\tcall %d of %d, %.80s, %d to %d: %v", c.Stamp, c.Client, fmt.Sprint(c.Request), c.Begin, c.End, c.Answer)
	}
	return text + "\n" + groupText(w.Group)
}

func askSameWorld(t *testing.T, what string, got, want impl.World) {
	t.Helper()
	if !sameWorld(got, want) {
		t.Errorf("%s:\n%s\nnot\n%s", what, worldText(got), worldText(want))
	}
}

// someWorldActs are such as are done, such as have a code, and one that is none.
func someWorldActs() []impl.WorldAct {
	list := []impl.WorldAct{
		{}, {Kind: impl.SvGroup, Group: impl.GroupAct{Kind: impl.GrTimeout}}, {Kind: impl.SvGroup, Group: impl.GroupAct{Kind: impl.GrPropose}},
		{Kind: impl.SvCall, Client: 9, Op: impl.LkQuery, Name: "door"},
	}
	for client := 10; client <= 12; client++ {
		list = append(list, impl.WorldAct{Kind: impl.SvCall, Client: client, Op: impl.LkQuery, Name: "door"}, impl.WorldAct{Kind: impl.SvSend, Client: client},
			impl.WorldAct{Kind: impl.SvReply, Client: client}, impl.WorldAct{Kind: impl.SvLie, Client: client, Answer: firstAnswer()})
	}
	return list
}

// askWorld holds WorldOK, and acts that answer ErrBad of others, to whether a world is right.
func askWorld(t *testing.T, what string, w impl.World, right bool) {
	t.Helper()
	ahead := copyWorld(w)
	if impl.WorldOK(w) != right {
		t.Errorf("WorldOK, %s: %v:\n%s", what, !right, worldText(w))
	}
	for i, a := range someWorldActs() {
		if right && i > 1 {
			break
		}
		got, code := impl.WorldStep(w, a)
		if (code != impl.ErrBad) != right || !right && !sameWorld(got, impl.World{}) {
			t.Errorf("WorldStep %d, %s: %d:\n%s", i, what, code, worldText(got))
		}
	}
	askSameWorld(t, what+", its argument", w, ahead)
}

// askBrokenWorld holds a right world that was changed to being right no more, or still.
func askBrokenWorld(t *testing.T, what string, w impl.World, right bool, breaks func(w *impl.World)) {
	t.Helper()
	x := copyWorld(w)
	breaks(&x)
	askWorld(t, what, x, right)
}

func TestServiceConstants(t *testing.T) {
	got := []int{impl.SvGroup, impl.SvCall, impl.SvSend, impl.SvReply, impl.SvLie, impl.FirstClient, impl.WorldClients}
	if want := []int{1, 2, 3, 4, 5, 10, 3}; !slices.Equal(got, want) {
		t.Errorf("constants: %v, not %v", got, want)
	}
}

func TestNewWorlds(t *testing.T) {
	right := 0
	for _, nodes := range append(noNodes(), nodeCounts...) {
		for _, faulty := range someFaulty() {
			want, wantCode := impl.World{}, impl.ErrRange
			if ownFaultyOK(nodes, faulty) {
				want, wantCode = freshWorld(nodes, faulty...), impl.OK
				right++
			}
			askKept(t, "NewWorld", faulty, -9, func(list []int) {
				got, code := impl.NewWorld(nodes, list)
				what := fmt.Sprint("NewWorld ", nodes, " ", list)
				if code != wantCode || impl.WorldOK(got) != (code == impl.OK) {
					t.Errorf("%s: %d, right %v", what, code, impl.WorldOK(got))
				}
				askSameWorld(t, what, got, want)
				run, codes, code := impl.WorldRun(nodes, list, nil)
				if code != wantCode || len(codes) > 0 {
					t.Errorf("WorldRun of no acts, %s: %v %d", what, codes, code)
				}
				askSameWorld(t, "WorldRun of no acts, "+what, run, want)
			})
		}
	}
	if right < 20 {
		t.Errorf("%d right worlds", right)
	}
}

func TestNewWorldsKnown(t *testing.T) {
	known := []struct {
		nodes  int
		faulty []int
		code   int
	}{
		{1, nil, impl.OK}, {1, []int{0}, impl.ErrRange}, {4, []int{}, impl.OK}, {4, []int{3}, impl.OK}, {4, []int{4}, impl.ErrRange}, {4, []int{-1}, impl.ErrRange}, {4, []int{0, 1}, impl.ErrRange},
		{7, []int{0, 6}, impl.OK}, {7, []int{6, 0}, impl.ErrRange}, {7, []int{2, 2}, impl.ErrRange}, {7, []int{0, 1, 2}, impl.ErrRange},
		{0, nil, impl.ErrRange}, {2, nil, impl.ErrRange}, {10, nil, impl.ErrRange}, {-4, nil, impl.ErrRange}, {math.MaxInt, nil, impl.ErrRange}, {math.MinInt, nil, impl.ErrRange},
		{4, make([]int, impl.MaxList), impl.ErrRange}, {4, make([]int, impl.MaxList+1), impl.ErrLong}, {5, make([]int, impl.MaxList+1), impl.ErrLong},
	}
	for _, row := range known {
		w, code := impl.NewWorld(row.nodes, row.faulty)
		if code != row.code {
			t.Errorf("NewWorld %d with %d Faulty: %d, not %d", row.nodes, len(row.faulty), code, row.code)
		}
		if code != impl.OK {
			askSameWorld(t, "NewWorld", w, impl.World{})
			continue
		}
		if w.Time != 0 || len(w.Calls) != 0 || len(w.Clients) != 3 || w.Group.Nodes != row.nodes || !slices.Equal(w.Group.Faulty, row.faulty) {
			t.Fatalf("NewWorld %d %v: %s", row.nodes, row.faulty, worldText(w))
		}
		for at, id := range []int{10, 11, 12} {
			if !sameClient(w.Clients[at], impl.Client{Id: id}) {
				t.Errorf("NewWorld %d %v: %s", row.nodes, row.faulty, clientText(w.Clients[at]))
			}
		}
	}
}

func TestWorldsThatAreRight(t *testing.T) {
	for i, w := range someWorlds() {
		askWorld(t, fmt.Sprint("world ", i), w, true)
		if len(w.Calls) == 0 {
			w.Calls = []impl.CallRecord{}
			askWorld(t, fmt.Sprint("world ", i, " with an empty list"), w, true)
		}
	}
	askWorld(t, "nothing", impl.World{}, false)
	askWorld(t, "a group alone", impl.World{Group: freshGroup(4)}, false)
	askWorld(t, "no group", impl.World{Clients: freshWorld(4).Clients}, false)
}

func TestWorldsOfWrongGroups(t *testing.T) {
	for _, w := range someWorlds() {
		nodes := w.Group.Nodes
		for i, breaks := range []func(g *impl.Group){
			func(g *impl.Group) { *g = impl.Group{} },
			func(g *impl.Group) { g.Nodes = 5 },
			func(g *impl.Group) { g.Nodes = map[int]int{1: 4, 4: 7, 7: 1}[nodes] },
			func(g *impl.Group) { g.Faulty = []int{0, 1, 2} },
			func(g *impl.Group) { g.Faulty = []int{nodes} },
			func(g *impl.Group) { g.Replicas = g.Replicas[:nodes-1] },
			func(g *impl.Group) { g.Replicas[nodes-1].Id++ },
			func(g *impl.Group) { g.Replicas[0].View = 21 },
			func(g *impl.Group) { g.Replicas[nodes-1].Log = []string{"x"} },
			func(g *impl.Group) { g.Wire = parcels(nodes, 401) },
			func(g *impl.Group) { g.Wire = []impl.Parcel{{To: nodes, Message: prepare(0, 0, 1, null)}} },
			func(g *impl.Group) { g.Sent = []impl.Message{{}} },
			func(g *impl.Group) { g.Sent = manySent(nodes, 4097) },
		} {
			askBrokenWorld(t, fmt.Sprint("a group broken by ", i), w, false, func(w *impl.World) { breaks(&w.Group) })
		}
		askBrokenWorld(t, "a full group", w, true, func(w *impl.World) { w.Group.Wire, w.Group.Sent = parcels(nodes, 400), manySent(nodes, 4096) })
	}
}

func TestWorldsOfOtherClients(t *testing.T) {
	for _, w := range someWorlds() {
		for count := range 3 {
			askBrokenWorld(t, fmt.Sprint(count, " clients"), w, false, func(w *impl.World) { w.Clients = w.Clients[:count] })
		}
		askBrokenWorld(t, "no clients and no calls", w, false, func(w *impl.World) { w.Clients, w.Calls = nil, nil })
		for _, id := range []int{9, 10, 12, 13} {
			askBrokenWorld(t, "one more", w, false, func(w *impl.World) { w.Clients = append(w.Clients, impl.Client{Id: id}) })
			askBrokenWorld(t, "one more at the beginning", w, false, func(w *impl.World) { w.Clients = slices.Insert(w.Clients, 0, impl.Client{Id: id}) })
		}
		for at := range 3 {
			for _, id := range append(edges(10, 12), 14, 256+10, 1<<32+11) {
				askBrokenWorld(t, fmt.Sprint("client ", at, " is ", id), w, id == callerAt(at), func(w *impl.World) {
					w.Clients[at].Id = id
					if w.Clients[at].Busy {
						w.Clients[at].Request.Client = id
					}
				})
			}
		}
		askBrokenWorld(t, "the first two changed places", w, false, func(w *impl.World) { w.Clients[0], w.Clients[1] = w.Clients[1], w.Clients[0] })
	}
	askBrokenWorld(t, "all numbers but the place", freshWorld(4), false, func(w *impl.World) { slices.Reverse(w.Clients) })
}

// Each client is made wrong by one thing that leaves its Stamp, so that its calls still fit.
func TestWorldsOfWrongClients(t *testing.T) {
	w := servedWorld(freshGroup(4, 3), [3]int{2, 1, 3}, [3]bool{true, true, true})
	for at := range 3 {
		id, stamp := callerAt(at), w.Clients[at].Stamp
		for i, breaks := range []func(c *impl.Client){
			func(c *impl.Client) { c.Busy = false },
			func(c *impl.Client) { c.Accepted = append(c.Accepted, firstAnswer()) },
			func(c *impl.Client) { c.Request = impl.Request{} },
			func(c *impl.Client) { c.Request.Client++ },
			func(c *impl.Client) { c.Request.Stamp++ },
			func(c *impl.Client) { c.Request.Lease = 0 },
			func(c *impl.Client) { c.Replies = []impl.Reply{{}} },
			func(c *impl.Client) { c.Replies = []impl.Reply{reply(0, id, stamp+1, firstAnswer())} },
			func(c *impl.Client) { c.Replies = []impl.Reply{reply(5, id, stamp, firstAnswer())} },
			func(c *impl.Client) {
				c.Replies = []impl.Reply{reply(0, id, stamp, firstAnswer()), reply(1, id, stamp, firstAnswer())}
			},
			func(c *impl.Client) {
				c.Replies = slices.Repeat([]impl.Reply{reply(0, id, stamp, firstAnswer())}, 41)
			},
		} {
			askBrokenWorld(t, fmt.Sprint("client ", at, " broken by ", i), w, false, func(w *impl.World) { breaks(&w.Clients[at]) })
		}
		askBrokenWorld(t, "a client with replies", w, true, func(w *impl.World) {
			w.Clients[at].Replies = slices.Repeat([]impl.Reply{reply(0, id, stamp, firstAnswer())}, 40)
		})
	}
	askBrokenWorld(t, "an answer that is not right", servedWorld(freshGroup(4), [3]int{2, 2, 2}, [3]bool{}), false, func(w *impl.World) { w.Clients[1].Accepted[0].Kind = 9 })
}

func TestWorldsOfManyCalls(t *testing.T) {
	for _, counts := range [][3]int{{100, 100, 100}, {300, 0, 0}, {0, 0, 300}, {1, 298, 1}, {101, 100, 100}, {0, 301, 0}, {1, 1, 299}, {200, 200, 200}} {
		sum := counts[0] + counts[1] + counts[2]
		for _, open := range [][3]bool{{}, {counts[0] > 0, counts[1] > 0, counts[2] > 0}} {
			w := servedWorld(freshGroup(4), counts, open)
			for i := range w.Calls {
				w.Calls[i].Begin, w.Calls[i].End = min(w.Calls[i].Begin, 300), min(w.Calls[i].End, 300)
			}
			w.Time = 300
			askWorld(t, fmt.Sprint(sum, " calls"), w, sum <= 300)
			early := copyWorld(w)
			early.Time = 1
			for i := range early.Calls {
				early.Calls[i].Begin, early.Calls[i].End = 1, min(early.Calls[i].End, 1)
			}
			askWorld(t, fmt.Sprint(sum, " calls at one time"), early, sum <= 300)
		}
	}
}

func TestWorldTimes(t *testing.T) {
	for _, now := range append(edges(0, 300), 2, 150, 298) {
		for _, nodes := range nodeCounts {
			askBrokenWorld(t, fmt.Sprint("Time ", now), freshWorld(nodes), now >= 0 && now <= 300, func(w *impl.World) { w.Time = now })
		}
		called := servedWorld(freshGroup(4), [3]int{2, 1, 1}, [3]bool{true, false, false})
		askBrokenWorld(t, fmt.Sprint("calls up to 4, Time ", now), called, now >= 4 && now <= 300, func(w *impl.World) { w.Time = now })
	}
}

func TestWorldsOfOtherStamps(t *testing.T) {
	w := servedWorld(freshGroup(4), [3]int{3, 3, 0}, [3]bool{false, true, false})
	for i := range w.Calls {
		for _, stamp := range append(edges(1, 3), 2, 4) {
			askBrokenWorld(t, fmt.Sprint("call ", i, " of Stamp ", stamp), w, stamp == w.Calls[i].Stamp, func(w *impl.World) {
				w.Calls[i].Stamp, w.Calls[i].Request.Stamp = stamp, stamp
			})
		}
		askBrokenWorld(t, fmt.Sprint("without call ", i), w, false, func(w *impl.World) { w.Calls = slices.Delete(w.Calls, i, i+1) })
		askBrokenWorld(t, fmt.Sprint("call ", i, " twice"), w, false, func(w *impl.World) { w.Calls = slices.Insert(w.Calls, i, w.Calls[i]) })
		for k := range i {
			mine := w.Calls[i].Client == w.Calls[k].Client
			askBrokenWorld(t, fmt.Sprint("calls ", k, " and ", i, " changed places"), w, !mine && i == k+1, func(w *impl.World) {
				w.Calls[i], w.Calls[k] = w.Calls[k], w.Calls[i]
			})
		}
	}
	for client := 10; client <= 12; client++ {
		stamp := w.Clients[client-10].Stamp
		askBrokenWorld(t, fmt.Sprint("a call more of ", client), w, false, func(w *impl.World) { w.Calls = append(w.Calls, callRecord(client, stamp+1, 6, 6)) })
	}
	askBrokenWorld(t, "a Stamp left out", w, false, func(w *impl.World) {
		w.Clients[0] = restingClient(10, 4)
		w.Calls[4] = callRecord(10, 4, 5, 5)
	})
	askBrokenWorld(t, "no calls", w, false, func(w *impl.World) { w.Calls = nil })
}

func TestWorldsOfOtherRequests(t *testing.T) {
	w := servedWorld(freshGroup(4), [3]int{2, 2, 1}, [3]bool{false, true, true})
	for i, call := range w.Calls {
		ask := func(what string, right bool, change func(r *impl.Request)) {
			t.Helper()
			askBrokenWorld(t, fmt.Sprint("call ", i, ", ", what), w, right, func(w *impl.World) { change(&w.Calls[i].Request) })
		}
		for k, r := range wrongRequests() {
			ask(fmt.Sprint("request ", k), false, func(x *impl.Request) { *x = r })
			r.Client, r.Stamp = call.Client, call.Stamp
			ask(fmt.Sprint("request ", k, " of the call"), ownRequestOK(r), func(x *impl.Request) { *x = r })
		}
		for _, n := range append(edges(10, 12), call.Client, 255, 256) {
			ask(fmt.Sprint("of client ", n), n == call.Client, func(r *impl.Request) { r.Client = n })
		}
		for _, n := range append(edges(1, 3), call.Stamp, 65535, 65536) {
			ask(fmt.Sprint("of Stamp ", n), n == call.Stamp, func(r *impl.Request) { r.Stamp = n })
		}
		for kind := range 6 {
			for _, lease := range []int{0, 1, 1000, 1001} {
				r := request(call.Client, call.Stamp, kind, lease, "other")
				ask(fmt.Sprint(r), ownRequestOK(r), func(x *impl.Request) { *x = r })
			}
		}
		ask("a long name", false, func(r *impl.Request) { r.Name = longText() })
	}
}

// Nobody's call is none of a world's.
func TestWorldsOfCallsOfOthers(t *testing.T) {
	w := servedWorld(freshGroup(4), [3]int{2, 0, 1}, [3]bool{})
	for _, id := range append(edges(10, 12), 0, 7, 13, 14, 255) {
		for at := range len(w.Calls) + 1 {
			askBrokenWorld(t, fmt.Sprint("a call of ", id), w, id == 11, func(w *impl.World) {
				w.Calls = slices.Insert(w.Calls, at, callRecord(id, 1, 1, 1))
				w.Clients[1] = restingClient(11, 1)
			})
		}
		askBrokenWorld(t, fmt.Sprint("a call turned into one of ", id), w, id == 12, func(w *impl.World) { w.Calls[1].Client, w.Calls[1].Request.Client = id, id })
		askBrokenWorld(t, fmt.Sprint("a call whose Client alone is ", id), w, id == 12, func(w *impl.World) { w.Calls[1].Client = id })
	}
}

func TestWorldsOfOtherTimesOfCalls(t *testing.T) {
	base := servedWorld(freshGroup(4), [3]int{3, 2, 1}, [3]bool{false, true, false})
	base.Time = 20
	for i := range base.Calls {
		w := copyWorld(base)
		w.Calls[i].Begin, w.Calls[i].End = 5, 9
		askWorld(t, "at other times", w, true)
		for _, begin := range append(edges(1, 20), 5, 9, 10) {
			askBrokenWorld(t, fmt.Sprint("call ", i, ", Begin ", begin, ", End 9"), w, begin >= 1 && begin <= 9, func(w *impl.World) { w.Calls[i].Begin = begin })
			askBrokenWorld(t, fmt.Sprint("call ", i, ", Begin and End ", begin), w, begin >= 1 && begin <= 20, func(w *impl.World) { w.Calls[i].Begin, w.Calls[i].End = begin, begin })
		}
		for _, end := range append(edges(5, 20), 4, 5, 19) {
			if end != -1 {
				askBrokenWorld(t, fmt.Sprint("call ", i, ", Begin 5, End ", end), w, end >= 5 && end <= 20, func(w *impl.World) { w.Calls[i].End = end })
			}
		}
		for _, begin := range append(edges(1, 20), 5) {
			waits := base.Calls[i].Client == 11 && base.Calls[i].Stamp == 2
			askBrokenWorld(t, fmt.Sprint("call ", i, ", Begin ", begin, ", not ended"), w, waits && begin >= 1 && begin <= 20, func(w *impl.World) { w.Calls[i].Begin, w.Calls[i].End = begin, -1 })
		}
	}
}

// A call that has not ended is a Busy client's last one, and no other.
func TestWorldsOfOpenCalls(t *testing.T) {
	for open := range 8 {
		waits := [3]bool{open&1 > 0, open&2 > 0, open&4 > 0}
		w := servedWorld(freshGroup(4), [3]int{2, 3, 1}, waits)
		askWorld(t, fmt.Sprint("open ", waits), w, true)
		for i, call := range w.Calls {
			at := call.Client - 10
			last := call.Stamp == w.Clients[at].Stamp
			askBrokenWorld(t, fmt.Sprint("open ", waits, ", call ", i, " not ended"), w, last && waits[at], func(w *impl.World) { w.Calls[i].End = -1 })
			askBrokenWorld(t, fmt.Sprint("open ", waits, ", call ", i, " ended at -2"), w, false, func(w *impl.World) { w.Calls[i].End = -2 })
			if last && waits[at] {
				askBrokenWorld(t, "a Busy client's last one that has an End", w, true, func(w *impl.World) { w.Calls[i].End = w.Time })
				askBrokenWorld(t, "a Busy client's last one that has a wrong End", w, false, func(w *impl.World) { w.Calls[i].End = call.Begin - 1 })
			}
		}
	}
}

// What a record tells of its answer is not asked for, nor that calls begin in their order.
func TestWorldsAskNothingOfAnswers(t *testing.T) {
	w := servedWorld(freshGroup(4), [3]int{2, 2, 0}, [3]bool{false, true, false})
	for i := range w.Calls {
		for _, a := range []impl.Answer{{}, told(9, -9, -9, -9), told(impl.AnHeld, 4, 4, 4)} {
			askBrokenWorld(t, fmt.Sprint("call ", i, " with ", a), w, true, func(w *impl.World) { w.Calls[i].Answer = a })
		}
	}
	askBrokenWorld(t, "calls that go back", w, true, func(w *impl.World) {
		for i := range w.Calls {
			w.Calls[i].Begin = len(w.Calls) - i
			if w.Calls[i].End != -1 {
				w.Calls[i].End = w.Time
			}
		}
	})
}

// Calls of several clients may be mixed in any way, as long as each one's own are in their order.
func TestWorldsOfMixedCalls(t *testing.T) {
	calls := map[int][]impl.CallRecord{}
	for client, count := range map[int]int{10: 2, 11: 2, 12: 1} {
		for stamp := 1; stamp <= count; stamp++ {
			calls[client] = append(calls[client], callRecord(client, stamp, 1, 3))
		}
	}
	mixed := 0
	for turn := range 243 {
		w := servedWorld(freshGroup(4), [3]int{2, 2, 1}, [3]bool{})
		w.Time, w.Calls = 3, nil
		next := map[int]int{}
		for range 5 {
			client := 10 + turn%3
			turn /= 3
			if next[client] < len(calls[client]) {
				w.Calls = append(w.Calls, calls[client][next[client]])
				next[client]++
			}
		}
		right := len(w.Calls) == 5
		askWorld(t, fmt.Sprint("mixed, ", len(w.Calls), " calls"), w, right)
		if right {
			mixed++
		}
	}
	if mixed != 30 {
		t.Errorf("%d ways to mix the calls", mixed)
	}
}
