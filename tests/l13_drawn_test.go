package tests

import (
	"fmt"
	"slices"
	"testing"

	"loop.example/g00292/impl"
)

// errand is a client's run of calls among nodes of which the liars are at most f; the others give one answer to each call.
type errand struct {
	nodes  int
	liars  []int
	honest []int
	client impl.Client
	truths []impl.Answer
	heard  []impl.Reply
}

func newErrand(t *testing.T, d *drawn, nodes int, liars []int) *errand {
	t.Helper()
	c, code := impl.NewClient(d.below(256))
	if code != impl.OK {
		t.Fatal(code)
	}
	e := &errand{nodes: nodes, liars: liars, client: c}
	for node := range nodes {
		if !slices.Contains(liars, node) {
			e.honest = append(e.honest, node)
		}
	}
	return e
}

// drawErrand draws the nodes, and who of them lies.
func drawErrand(t *testing.T, d *drawn) *errand {
	t.Helper()
	nodes := nodeCounts[d.below(3)]
	order := slices.Clone(firstNodes(nodes))
	mix(d, order)
	return newErrand(t, d, nodes, order[:d.below(ownFaults[nodes]+1)])
}

func (e *errand) what() string {
	return fmt.Sprint(e.nodes, " nodes, liars ", e.liars, ", ", clientText(e.client))
}

// call lets the client ask for something, most often rightly, and draws what the honest nodes answer.
func (e *errand) call(t *testing.T, d *drawn) {
	t.Helper()
	kind, name, lease := d.below(6), []string{"a", "b", "door", "1"}[d.below(4)], []int{0, 30}[d.below(2)]
	if d.below(3) > 0 {
		kind, name = 1+d.below(4), "door"
		lease = kind % 2 * (1 + d.below(1000))
	}
	askCallLikeOwn(t, e.what(), e.nodes, e.client, kind, name, lease)
	next, code := impl.ClientCall(e.nodes, e.client, kind, name, lease)
	if code == impl.OK {
		e.truths = append(e.truths, drawAnswer(d))
	}
	e.client = next
}

// sureCall calls rightly a client that rests.
func (e *errand) sureCall(t *testing.T, d *drawn) {
	t.Helper()
	next, code := impl.ClientCall(e.nodes, e.client, impl.LkQuery, "door", 0)
	if code != impl.OK || next.Stamp != len(e.truths)+1 {
		t.Fatalf("%s: %s %d", e.what(), clientText(next), code)
	}
	e.client, e.truths = next, append(e.truths, drawAnswer(d))
}

// take hears a reply, holds the step to the model, and what was accepted to what the honest nodes gave.
func (e *errand) take(t *testing.T, r impl.Reply) int {
	t.Helper()
	ahead := e.client
	next, code := askTakeLikeOwn(t, e.what(), e.nodes, e.client, r)
	e.client, e.heard = next, append(e.heard, r)
	open := 0
	if next.Busy {
		open = 1
	}
	if !impl.ClientOK(e.nodes, next) || next.Id != ahead.Id || next.Stamp != len(e.truths) || len(next.Accepted) != next.Stamp-open {
		t.Fatalf("%s behind %s", e.what(), clientText(ahead))
	}
	if !slices.Equal(next.Accepted, e.truths[:len(next.Accepted)]) {
		t.Fatalf("%s: accepted %v, the honest nodes gave %v", e.what(), next.Accepted, e.truths)
	}
	return code
}

// truth is what an honest node says of a call that there was.
func (e *errand) truth(d *drawn, stamp int) impl.Reply {
	return reply(e.honest[d.below(len(e.honest))], e.client.Id, stamp, e.truths[stamp-1])
}

// lie is what a liar can come by: replies of its own to any call, others' names and marks that do not fit, what was heard before.
func (e *errand) lie(d *drawn) impl.Reply {
	if len(e.liars) == 0 || d.below(4) == 0 {
		if len(e.heard) > 0 && d.below(2) == 0 {
			return e.heard[d.below(len(e.heard))]
		}
		return reply(e.honest[0], e.client.Id+1, e.client.Stamp, drawAnswer(d))
	}
	own := reply(e.liars[d.below(len(e.liars))], e.client.Id, e.client.Stamp, drawAnswer(d))
	switch d.below(8) {
	case 0:
		own.Node = e.honest[d.below(len(e.honest))]
	case 1:
		own.Stamp += d.below(3) - 1
		own = marked(own)
	case 2:
		own.Answer.Token++
	case 3:
		own.Client ^= 1
		own = marked(own)
	}
	return own
}

// Promise 14: each call is answered once, by what the honest nodes gave, whatever the liars say, in any order, again and again.
func TestEveryCallHasItsAnswer(t *testing.T) {
	d := &drawn{seed: 51}
	for _, nodes := range nodeCounts {
		for _, set := range setsOf(nodes, ownFaults[nodes]) {
			var liars []int
			for node := range nodes {
				if set>>node&1 == 1 {
					liars = append(liars, node)
				}
			}
			e := newErrand(t, d, nodes, liars)
			for range 12 {
				e.sureCall(t, d)
				e.answerCall(t, d)
			}
			if e.client.Busy || !slices.Equal(e.client.Accepted, e.truths) || len(e.truths) != 12 {
				t.Fatalf("%s: %v, not %v", e.what(), e.client.Accepted, e.truths)
			}
		}
	}
}

// answerCall lets all honest nodes and the liars speak, mixed, no more than there is room for: the call ends, and what comes then is late.
func (e *errand) answerCall(t *testing.T, d *drawn) {
	t.Helper()
	stamp := e.client.Stamp
	var list []impl.Reply
	for _, node := range e.honest {
		for range 1 + d.below(2) {
			list = append(list, reply(node, e.client.Id, stamp, e.truths[stamp-1]))
		}
	}
	for len(list) < mostReplies {
		list = append(list, e.lie(d))
	}
	mix(d, list)
	ended := false
	for _, r := range list {
		code := e.take(t, r)
		if ended && code != impl.ErrLate && code != impl.ErrSigned || code == impl.ErrFull {
			t.Fatalf("%s: %d behind the answer", e.what(), code)
		}
		ended = !e.client.Busy
	}
	if !ended {
		t.Fatalf("%s: no answer", e.what())
	}
	for _, r := range list {
		if code := e.take(t, r); code != impl.ErrLate && code != impl.ErrSigned {
			t.Fatalf("%s: %d, given again", e.what(), code)
		}
	}
}

// Steps of any kind, drawn one by one: a client may be filled by liars then, but it never accepts what they say.
func TestDrawnErrands(t *testing.T) {
	d := &drawn{seed: 52}
	tally := map[string]int{}
	for range 400 {
		e := drawErrand(t, d)
		flood := d.below(4) == 0
		for range 200 {
			code := impl.OK
			switch pick := d.below(10); {
			case pick == 0 || e.client.Stamp == 0 || !e.client.Busy && pick < 6:
				e.call(t, d)
			case flood && d.below(60) > 0 || pick < 4:
				code = e.take(t, e.lie(d))
			case pick < 8 && e.client.Stamp > 0:
				code = e.take(t, e.truth(d, e.client.Stamp))
			default:
				code = e.take(t, e.truth(d, 1+d.below(e.client.Stamp)))
			}
			tally[fmt.Sprint(e.nodes, " nodes, ", impl.CodeWord(code))]++
		}
		tally[fmt.Sprint(e.nodes, " nodes, accepted")] += len(e.client.Accepted)
	}
	for _, nodes := range nodeCounts {
		for _, word := range []string{"ok", "signed", "late", "full", "accepted"} {
			what := fmt.Sprint(nodes, " nodes, ", word)
			if nodes == 1 && (word == "full" || word == "signed") {
				continue // its one node does not lie, and one reply is enough
			}
			if tally[what] < 50 {
				t.Errorf("%s: %d times", what, tally[what])
			}
		}
	}
}

// The bound is just f: with one liar more a client accepts a lie.
func TestClientsWithOneLiarTooMany(t *testing.T) {
	lie := secondAnswer()
	for _, nodes := range nodeCounts {
		faults, c := ownFaults[nodes], listening()
		for node := range faults {
			c = askHeard(t, "f liars", nodes, c, says(node, lie))
		}
		askDecided(t, "f + 1 liars", nodes, c, says(faults, lie), lie)
	}
}

// What a table answers to a client's requests is what the client accepts, call by call.
func TestClientsAcceptWhatTablesAnswer(t *testing.T) {
	calls := []struct {
		kind, lease int
		name        string
	}{{impl.LkAcquire, 30, "a"}, {impl.LkAcquire, 20, "b"}, {impl.LkQuery, 0, "a"}, {impl.LkRenew, 50, "a"}, {impl.LkRelease, 0, "b"}, {impl.LkRelease, 0, "c"}, {impl.LkQuery, 0, "b"}}
	for _, nodes := range nodeCounts {
		faults, lie := ownFaults[nodes], told(impl.AnFree, 9, -1, 0)
		c, _ := impl.NewClient(10)
		table := impl.Table{Next: 1}
		var want []impl.Answer
		for at, call := range calls {
			var code int
			if c, code = impl.ClientCall(nodes, c, call.kind, call.name, call.lease); code != impl.OK {
				t.Fatal(code)
			}
			next, a, code := impl.ApplyRequest(table, at, c.Request)
			if code != impl.OK {
				t.Fatal(code)
			}
			table, want = next, append(want, a)
			for node := range nodes {
				said := a
				if node < faults {
					said = lie
				}
				r, _ := impl.MakeReply(node, 10, c.Request.Stamp, said)
				if c, _ = impl.ClientTake(nodes, c, r); !c.Busy {
					break
				}
			}
		}
		if c.Busy || !slices.Equal(c.Accepted, want) || c.Stamp != len(calls) {
			t.Errorf("%d nodes: %v, not %v", nodes, c.Accepted, want)
		}
	}
}

// answeredCalls lets a client call so often, each call answered by f + 1 nodes.
func answeredCalls(t *testing.T, nodes int, c impl.Client, calls int) impl.Client {
	t.Helper()
	want := c.Stamp + calls
	for range calls {
		next, code := impl.ClientCall(nodes, c, impl.LkQuery, "door", 0)
		if code != impl.OK {
			t.Fatal(clientText(c), code)
		}
		for node := range ownFaults[nodes] + 1 {
			next, code = impl.ClientTake(nodes, next, reply(node, c.Id, next.Stamp, thirdAnswer()))
			if code != impl.OK {
				t.Fatal(clientText(next), code)
			}
		}
		c = next
	}
	if c.Stamp != want || c.Busy || len(c.Accepted) != want {
		t.Fatal(clientText(c))
	}
	return c
}

// A client that began new calls 4000 times, and no more; one that was put together beyond that calls until no Stamp is left.
func TestClientsCallToTheirEnd(t *testing.T) {
	for _, nodes := range nodeCounts {
		for _, row := range []struct{ from, end, code int }{{usedStamp - 3, usedStamp, impl.ErrUsed}, {topStamp - 3, topStamp, impl.ErrForm}} {
			c := answeredCalls(t, nodes, restingClient(9, row.from), row.end-row.from)
			askNotCalled(t, "at its end", nodes, c, impl.LkQuery, "door", 0, row.code)
			askNotTaken(t, "at its end", nodes, c, reply(0, 9, row.end, thirdAnswer()), impl.ErrLate)
		}
		answeredCalls(t, nodes, restingClient(9, usedStamp+1), 5)
	}
}
