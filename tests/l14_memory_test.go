package tests

import (
	"fmt"
	"go/ast"
	"runtime"
	"slices"
	"strings"
	"sync"
	"testing"
	"time"

	"loop.example/g00292/impl"
)

// roomyWorld is a world whose lists have elements behind their ends; the text tells them too.
func roomyWorld(w impl.World) (impl.World, func() string) {
	group, groupText := roomyGroup(w.Group)
	w.Group = group
	texts := []func() string{groupText}
	clients := slices.Clone(w.Clients)
	for at, c := range clients {
		x, text := roomyClient(c)
		clients[at] = x
		texts = append(texts, text)
	}
	var allClients []impl.Client
	var allCalls []impl.CallRecord
	w.Clients, allClients = roomy(clients, impl.Client{Id: -9})
	w.Calls, allCalls = roomy(w.Calls, impl.CallRecord{Client: -9})
	return w, func() string {
		all := fmt.Sprintf("%v %v %v", allClients, allCalls, w.Time)
		for _, text := range texts {
			all += text()
		}
		return all
	}
}

// ruinWorld writes into all memory that a world has.
func ruinWorld(w impl.World) {
	ruinGroup(w.Group)
	for _, c := range w.Clients {
		ruinClient(c)
	}
	ruin(w.Clients, impl.Client{Id: -9})
	ruin(w.Calls, impl.CallRecord{Client: -9})
}

// askWorldApart fails if two lists of a world share memory; it ruins the world.
func askWorldApart(t *testing.T, what string, w impl.World) {
	t.Helper()
	askGroupApart(t, what, w.Group)
	var replies [][]impl.Reply
	var accepted [][]impl.Answer
	for _, c := range w.Clients {
		replies, accepted = append(replies, c.Replies), append(accepted, c.Accepted)
	}
	askApart(t, what, func(list int) impl.Reply { return impl.Reply{Node: list} }, replies...)
	askApart(t, what, func(list int) impl.Answer { return impl.Answer{Kind: list} }, accepted...)
}

// memoryWorlds have, besides others, such in which a reply ends a call.
func memoryWorlds() []impl.World {
	list := []impl.World{
		freshWorld(1), freshWorld(4, 1), servedWorld(busyGroup(4, 2, 1), [3]int{3, 2, 1}, [3]bool{true, false, true}),
		servedWorld(busyGroup(7, 3, 0, 6), [3]int{1, 1, 1}, [3]bool{true, true, true}), servedWorld(freshGroup(4), [3]int{100, 100, 100}, [3]bool{true, false, false}),
	}
	for _, nodes := range nodeCounts {
		faulty := []int{1, 2}[:ownFaults[nodes]]
		w := loggedWorld(nodes, faulty, [3]int{2, 2, 0}, [3]bool{true, true, false}, null, proposedBody(nodes, 4, request(10, 2, impl.LkAcquire, 30, "door")))
		for node := 1; node <= ownFaults[nodes]; node++ {
			w.Clients[0].Replies = append(w.Clients[0].Replies, reply(node, 10, 2, told(impl.AnOK, 1, 10, 34+ownFaults[nodes])))
		}
		list = append(list, w)
	}
	return list
}

// Promise 1, of worlds: arguments stay, what stands behind their ends too, and answers share no memory with them, nor their lists with each other.
func TestWorldsAreKeptAndNew(t *testing.T) {
	tally := map[int]int{}
	for i, w := range memoryWorlds() {
		if !impl.WorldOK(w) {
			t.Fatalf("world %d is not right: %s", i, worldText(w))
		}
		acts := actsOfAnyKind(w.Group.Nodes)
		for _, a := range actsOf(w.Group) {
			acts = append(acts, svGroup(a))
		}
		for k, a := range append(acts, longWorldActs()[9]) {
			what := fmt.Sprint("world ", i, " act ", k)
			x, text := roomyWorld(w)
			ahead := text()
			y, code := impl.WorldStep(x, a)
			if text() != ahead {
				t.Fatalf("%s writes into its world", what)
			}
			want := copyWorld(y)
			ruinWorld(y)
			if text() != ahead {
				t.Fatalf("%s: its world changes with its answer", what)
			}
			z, again := impl.WorldStep(x, a)
			right := impl.WorldOK(x)
			ruinWorld(x)
			if !sameWorld(z, want) || again != code || !right {
				t.Fatalf("%s: its answer changes with its world, or is told otherwise again", what)
			}
			askWorldApart(t, what, z)
			tally[code]++
		}
	}
	for _, code := range []int{impl.OK, impl.ErrLong, impl.ErrForm, impl.ErrRange, impl.ErrNone, impl.ErrFull, impl.ErrSigned, impl.ErrPrimary, impl.ErrAgain} {
		if tally[code] == 0 {
			t.Errorf("%s: never", impl.CodeWord(code))
		}
	}
}

// A world whose lists share memory among each other is answered with lists that do not.
func TestWorldsOfSharedMemory(t *testing.T) {
	accepted := manyAnswers(9)
	w := servedWorld(freshGroup(4, 3), [3]int{4, 4, 4}, [3]bool{true, false, true})
	for at := range w.Clients {
		w.Clients[at].Accepted = accepted[:len(w.Clients[at].Accepted)]
	}
	log := []string{null, proposedBody(4, 4, w.Clients[0].Request), null}
	for id := range 4 {
		w.Group.Replicas[id].Log = log[:2]
	}
	for _, a := range []impl.WorldAct{svReply(10, 0), svLie(12, 3, firstAnswer()), svCall(11, impl.LkQuery, 0, "a"), svSend(10, 0, 4), svCall(10, impl.LkQuery, 0, "a"), {}} {
		want, wantCode := impl.WorldStep(copyWorld(w), a)
		got, code := impl.WorldStep(w, a)
		if code != wantCode {
			t.Errorf("kind %d: %d, not %d", a.Kind, code, wantCode)
		}
		askSameWorld(t, fmt.Sprint("kind ", a.Kind), got, want)
		askWorldApart(t, fmt.Sprint("kind ", a.Kind), got)
		if log[2] != null || !slices.Equal(accepted, manyAnswers(9)) {
			t.Fatalf("kind %d: writes into shared memory", a.Kind)
		}
	}
}

func TestNewWorldsAndRunsAreNew(t *testing.T) {
	for _, nodes := range nodeCounts {
		faulty := []int{0, 1}[:ownFaults[nodes]]
		faulty = slices.Clone(faulty)
		acts := append(callAndServe(10, 30, 2%nodes), svCall(11, impl.LkQuery, 0, "a"), svLie(10, 0, firstAnswer()), svGroup(impl.GroupAct{Kind: impl.GrTimeout, Node: nodes - 1}))
		count := len(acts)
		a, _ := impl.NewWorld(nodes, faulty)
		b, _ := impl.NewWorld(nodes, faulty)
		ruinWorld(a)
		c, codes, _ := impl.WorldRun(nodes, faulty, acts)
		d, same, _ := impl.WorldRun(nodes, faulty, acts)
		if !slices.Equal(faulty, []int{0, 1}[:ownFaults[nodes]]) {
			t.Fatal("NewWorld: Faulty changes with its answer")
		}
		askSameWorld(t, "NewWorld", b, freshWorld(nodes, faulty...))
		want := copyWorld(d)
		ruinWorld(c)
		ruin(codes, -9)
		askSameWorld(t, "WorldRun", d, want)
		ruin(faulty, -9)
		ruin(acts, impl.WorldAct{Kind: -9})
		askSameWorld(t, "WorldRun, its arguments changed", d, want)
		askSameWorld(t, "NewWorld, its argument changed", b, freshWorld(nodes, []int{0, 1}[:ownFaults[nodes]]...))
		if len(same) != count || slices.Contains(same, -9) {
			t.Error("WorldRun: codes of two runs share memory")
		}
		askWorldApart(t, "WorldRun", d)
		askWorldApart(t, "NewWorld", b)
	}
}

// What was answered ahead stays as it is, however a world goes on from there, and in however many ways.
func TestWorldsGoOnApart(t *testing.T) {
	w := memoryWorlds()[6] // a reply away from an answer
	kept := copyWorld(w)
	acts := []impl.WorldAct{svReply(10, 0), svReply(10, 3), svCall(12, impl.LkQuery, 0, "a"), svSend(11, 0, 4), svLie(11, 1, firstAnswer()), svGroup(impl.GroupAct{Kind: impl.GrTimeout})}
	var nexts, copies []impl.World
	for _, a := range acts {
		next, code := impl.WorldStep(w, a)
		if code != impl.OK {
			t.Fatal(a.Kind, code)
		}
		nexts, copies = append(nexts, next), append(copies, copyWorld(next))
		for _, b := range acts {
			impl.WorldStep(next, b)
		}
	}
	askSameWorld(t, "where all went on from", w, kept)
	for i := range nexts {
		askSameWorld(t, fmt.Sprint("way ", i), nexts[i], copies[i])
	}
}

// busyActs are acts of many replies, so that many goroutines run.
func busyActs(nodes int) []impl.WorldAct {
	acts := callAndServe(10, map[int]int{1: 0, 4: 27, 7: 90}[nodes])
	for round := range 9 {
		for node := range nodes {
			acts = append(acts, svReply(10+round%3, node), svLie(10+node%3, node, drawAnswer(&drawn{seed: uint64(round)})))
		}
	}
	return append(acts, svCall(10, impl.LkRelease, 0, "a"), svCall(11, impl.LkQuery, 0, "a"), svReply(11, 0), svSend(11, 0, 9))
}

// The same run, many times over, one behind the other and beside each other, answers the same. (The run under the race detector looks for this name.)
func TestServicesTogether(t *testing.T) {
	for _, nodes := range nodeCounts {
		faulty := []int{1, 2}[:ownFaults[nodes]]
		acts := busyActs(nodes)
		want, wantCodes, code := impl.WorldRun(nodes, faulty, acts)
		if code != impl.OK || len(wantCodes) != len(acts) || !slices.Contains(wantCodes, impl.ErrNone) {
			t.Fatalf("%d nodes: %v %d", nodes, wantCodes, code)
		}
		wait := servedWorld(want.Group, [3]int{1, 1, 1}, [3]bool{true, true, true})
		var workers sync.WaitGroup
		for range 24 {
			workers.Go(func() {
				for range 4 {
					got, codes, code := impl.WorldRun(nodes, faulty, acts)
					if code != impl.OK || !slices.Equal(codes, wantCodes) || !sameWorld(got, want) {
						t.Errorf("%d nodes: a run answers otherwise: %v %d", nodes, codes, code)
					}
					// All of them read one world and one list of acts.
					first, firstCode := impl.WorldStep(wait, svReply(10, 0))
					again, againCode := impl.WorldStep(wait, svReply(10, 0))
					if firstCode != againCode || !sameWorld(first, again) {
						t.Errorf("%d nodes: an act answers otherwise: %d %d", nodes, firstCode, againCode)
					}
				}
			})
		}
		workers.Wait()
	}
}

// Nothing that a call began goes on behind its answer, also where a reply is not taken.
func TestServicesLeaveNothingRunning(t *testing.T) {
	ahead := runtime.NumGoroutine()
	for _, nodes := range nodeCounts {
		for range 20 {
			impl.WorldRun(nodes, []int{1, 2}[:ownFaults[nodes]], busyActs(nodes))
		}
		for _, w := range memoryWorlds() {
			for _, a := range actsOfAnyKind(w.Group.Nodes) {
				impl.WorldStep(w, a)
			}
		}
	}
	for range 200 { // one that is joined may take a moment to be gone
		if runtime.NumGoroutine() <= ahead {
			return
		}
		time.Sleep(10 * time.Millisecond)
	}
	t.Errorf("%d goroutines ahead, %d behind", ahead, runtime.NumGoroutine())
}

// The document's chapter on ways: a goroutine per client hands over replies by a channel, and is joined.
func TestServiceWays(t *testing.T) {
	fset, files := programFiles(t)
	found := map[string]bool{}
	for _, file := range files {
		if !strings.HasSuffix(fset.Position(file.Pos()).Filename, "l14_service.go") {
			continue
		}
		ast.Inspect(file, func(node ast.Node) bool {
			switch x := node.(type) {
			case *ast.GoStmt:
				found["go"] = true
			case *ast.SendStmt:
				found["send"] = true
			case *ast.ChanType:
				found["channel"] = true
			case *ast.SelectorExpr:
				found[x.Sel.Name] = true
			}
			return true
		})
	}
	for _, word := range []string{"go", "send", "channel", "WaitGroup", "Wait"} {
		if !found[word] {
			t.Errorf("the service has no %s", word)
		}
	}
}
