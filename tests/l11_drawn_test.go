package tests

import (
	"fmt"
	"slices"
	"testing"

	"loop.example/g00292/impl"
)

// crowd is what nodes said to one client, of which the liars are at most f. An honest node says one thing, once or again.
type crowd struct {
	nodes  int
	liars  []int
	honest map[int]impl.Answer
	list   []impl.Reply
}

// pool are answers that are near each other.
func pool() []impl.Answer {
	return []impl.Answer{
		told(impl.AnOK, 1, 7, 30), told(impl.AnOK, 2, 7, 30), told(impl.AnWait, 1, 7, 30), told(impl.AnOK, 1, 8, 30), told(impl.AnOK, 1, 7, 31), told(impl.AnNone, 0, -1, 0),
	}
}

func drawAnswer(d *drawn) impl.Answer { return pool()[d.below(len(pool()))] }

// drawCrowd lets honest nodes speak, mostly all the same, then liars as often as they like, and mixes what was said.
func drawCrowd(d *drawn) crowd {
	c := crowd{nodes: nodeCounts[d.below(3)], honest: map[int]impl.Answer{}}
	order := firstNodes(c.nodes)
	mix(d, order)
	c.liars = order[:d.below(ownFaults[c.nodes]+1)]
	truth, apart := drawAnswer(d), d.below(3) == 0
	for _, node := range order[len(c.liars):] {
		if d.below(4) == 0 {
			continue
		}
		c.honest[node] = truth
		if apart && d.below(2) == 0 {
			c.honest[node] = drawAnswer(d)
		}
		for range 1 + d.below(3) {
			c.list = append(c.list, says(node, c.honest[node]))
		}
	}
	if len(c.liars) > 0 {
		for range d.below(mostCounted - len(c.list) + 1) {
			c.list = append(c.list, c.lie(d))
		}
	}
	mix(d, c.list)
	return c
}

func mix[T any](d *drawn, list []T) {
	for i := len(list) - 1; i > 0; i-- {
		j := d.below(i + 1)
		list[i], list[j] = list[j], list[i]
	}
}

// lie is a reply that a liar can come by: of its own, in another's name without that one's secret, or what it heard, changed or not.
func (c crowd) lie(d *drawn) impl.Reply {
	own := says(c.liars[d.below(len(c.liars))], drawAnswer(d))
	forged := own
	forged.Node = d.below(8) - 1
	other := reply(d.below(c.nodes), askingClient+d.below(2), askingStamp+1, drawAnswer(d))
	switch d.below(9) {
	case 0:
		if !slices.Contains(c.liars, forged.Node) {
			return forged
		}
	case 1:
		return other
	case 2:
		other.Stamp, other.Client = askingStamp, askingClient
		return other
	case 3:
		return says(c.nodes+d.below(3), own.Answer)
	case 4, 5:
		if len(c.list) > 0 {
			heard := c.list[d.below(len(c.list))]
			if d.below(2) == 0 {
				heard.Answer = own.Answer
			}
			return heard
		}
	}
	return own
}

// givenBy counts the honest nodes that said an answer.
func (c crowd) givenBy(a impl.Answer) int {
	count := 0
	for _, said := range c.honest {
		if said == a {
			count++
		}
	}
	return count
}

// Promise 12: whatever at most f say, and wherever it stands, an answer that is counted is an honest node's; and what f + 1 of these say is counted.
func TestDrawnCrowds(t *testing.T) {
	d := &drawn{seed: 12}
	tally := map[string]int{}
	for i := range 6000 {
		c := drawCrowd(d)
		if len(c.list) > mostCounted {
			t.Fatal(len(c.list))
		}
		what := fmt.Sprint("crowd ", i, ", liars ", c.liars, ", honest ", c.honest)
		askLikeOwn(t, what, c.nodes, askingClient, askingStamp, c.list)
		a, code := impl.CountReplies(c.nodes, askingClient, askingStamp, c.list)
		if code == impl.OK && c.givenBy(a) == 0 {
			t.Fatalf("%s: %v was counted", what, a)
		}
		enough := slices.ContainsFunc(pool(), func(a impl.Answer) bool { return c.givenBy(a) > ownFaults[c.nodes] })
		if enough && code != impl.OK || code != impl.OK && code != impl.ErrQuorum {
			t.Fatalf("%s: %d", what, code)
		}
		tally[fmt.Sprint(c.nodes, " nodes, ", len(c.liars), " liars, ", impl.CodeWord(code))]++
	}
	for nodes, faults := range ownFaults {
		for liars := range faults + 1 {
			for _, word := range []string{"ok", "quorum"} {
				if what := fmt.Sprint(nodes, " nodes, ", liars, " liars, ", word); tally[what] < 20 {
					t.Errorf("%s: %d times", what, tally[what])
				}
			}
		}
	}
}

// Where honest nodes say all the same, nothing else is ever counted, and with f + 1 of them it is.
func TestHonestNodesThatAgree(t *testing.T) {
	d := &drawn{seed: 13}
	for nodes, faults := range ownFaults {
		for _, liars := range setsOf(nodes, faults) {
			for range 40 {
				c := crowd{nodes: nodes, honest: map[int]impl.Answer{}}
				truth, speakers := drawAnswer(d), d.below(nodes-faults+1)
				for node := range nodes {
					if liars>>node&1 == 1 {
						c.liars = append(c.liars, node)
					} else if len(c.honest) < speakers {
						c.honest[node] = truth
						c.list = append(c.list, says(node, truth))
					}
				}
				for len(c.liars) > 0 && len(c.list) < mostCounted {
					c.list = append(c.list, c.lie(d))
				}
				mix(d, c.list)
				got, code := impl.CountReplies(nodes, askingClient, askingStamp, c.list)
				if code == impl.OK && got != truth || speakers > faults && code != impl.OK || speakers == 0 && code != impl.ErrQuorum {
					t.Fatalf("%d nodes, liars %v, %d honest that say %v: %v %d", nodes, c.liars, speakers, truth, got, code)
				}
			}
		}
	}
}

// The bound is just f: one liar more, and a lie is counted.
func TestOneLiarTooMany(t *testing.T) {
	truth, lie := firstAnswer(), secondAnswer()
	for _, nodes := range nodeCounts {
		faults := ownFaults[nodes]
		askNotCounted(t, "f liars", nodes, askingClient, askingStamp, allSay(lie, firstNodes(faults)...), impl.ErrQuorum)
		list := append(allSay(lie, firstNodes(faults+1)...), allSay(truth, firstNodes(nodes)[faults+1:]...)...)
		askCounted(t, "f + 1 liars", nodes, askingClient, askingStamp, list, lie)
	}
}

// What was counted stays counted, whatever comes behind it.
func TestCountedStays(t *testing.T) {
	d := &drawn{seed: 14}
	decided := 0
	for range 400 {
		c := drawCrowd(d)
		first, found := impl.Answer{}, false
		for size := range len(c.list) + 1 {
			a, code := impl.CountReplies(c.nodes, askingClient, askingStamp, c.list[:size])
			if found && (code != impl.OK || a != first) {
				t.Fatalf("%v, then %v %d", first, a, code)
			}
			if code == impl.OK && !found {
				first, found = a, true
				decided++
			}
		}
	}
	if decided < 100 {
		t.Error(decided)
	}
}

// What nodes with one log answer to a call is what its client counts, though f of them lie.
func TestAnswersOfLogsAreCounted(t *testing.T) {
	for _, nodes := range nodeCounts {
		log := []string{body(nodes, "a"), null, body(nodes, "b")}
		_, answers, code := impl.LogTable(nodes, log)
		if code != impl.OK {
			t.Fatal(code)
		}
		for at, a := range answers {
			if log[at] == null {
				continue
			}
			b, _ := impl.ReadBatch([]byte(log[at]))
			faults, lie := ownFaults[nodes], told(impl.AnFree, 9, -1, 0)
			var list []impl.Reply
			for node := range nodes {
				said := a
				if node < faults {
					said = lie
				}
				r, code := impl.MakeReply(node, b.Request.Client, b.Request.Stamp, said)
				if code != impl.OK || !impl.ReplyOK(nodes, r) {
					t.Fatal(r, code)
				}
				list = append(list, r, r)
			}
			askCounted(t, "a log's answer", nodes, b.Request.Client, b.Request.Stamp, list, a)
		}
	}
}
