package tests

import (
	"fmt"
	"slices"
	"testing"

	"loop.example/g00292/impl"
)

// ownTake is the chapter's sentence, code by code.
func ownTake(nodes int, c impl.Client, r impl.Reply) (impl.Client, int) {
	switch {
	case !ownClientOK(nodes, c):
		return impl.Client{}, impl.ErrBad
	case !ownReplyOK(nodes, r):
		return c, impl.ErrSigned
	case !c.Busy || r.Client != c.Id || r.Stamp != c.Stamp:
		return c, impl.ErrLate
	case len(c.Replies) == mostReplies:
		return c, impl.ErrFull
	}
	c = copyOfClient(c)
	c.Replies = append(c.Replies, r)
	if a, code := ownCount(nodes, c.Id, c.Stamp, c.Replies); code == impl.OK {
		c.Accepted = append(c.Accepted, a)
		c.Busy, c.Request, c.Replies = false, impl.Request{}, nil
	}
	return c, impl.OK
}

func askTaking(t *testing.T, what string, nodes int, c impl.Client, r impl.Reply, want impl.Client, wantCode int) impl.Client {
	t.Helper()
	got, code := impl.ClientTake(nodes, c, r)
	if !sameClient(got, want) || code != wantCode {
		t.Errorf("ClientTake of %d, %.160s, %s, %.120s: %s %d, not %s %d", nodes, what, clientText(c), saidText([]impl.Reply{r}), clientText(got), code, clientText(want), wantCode)
	}
	return got
}

// askHeard holds a reply that decides nothing to what the chapter says of it.
func askHeard(t *testing.T, what string, nodes int, c impl.Client, r impl.Reply) impl.Client {
	t.Helper()
	want := copyOfClient(c)
	want.Replies = append(want.Replies, r)
	got := askTaking(t, what, nodes, c, r, want, impl.OK)
	askClient(t, what, nodes, got, true)
	return got
}

// askDecided holds a reply that decides to what the chapter says of it, and what comes behind it.
func askDecided(t *testing.T, what string, nodes int, c impl.Client, r impl.Reply, a impl.Answer) impl.Client {
	t.Helper()
	want := impl.Client{Id: c.Id, Stamp: c.Stamp, Accepted: append(slices.Clone(c.Accepted), a)}
	got := askTaking(t, what, nodes, c, r, want, impl.OK)
	askClient(t, what, nodes, got, true)
	for node := range nodes {
		for _, b := range []impl.Answer{a, secondAnswer(), thirdAnswer()} {
			askTaking(t, what+", behind it", nodes, got, reply(node, c.Id, c.Stamp, b), want, impl.ErrLate)
		}
	}
	return got
}

func askNotTaken(t *testing.T, what string, nodes int, c impl.Client, r impl.Reply, code int) {
	t.Helper()
	want := c
	if code == impl.ErrBad {
		want = impl.Client{}
	}
	askTaking(t, what, nodes, c, r, want, code)
}

func askTakeLikeOwn(t *testing.T, what string, nodes int, c impl.Client, r impl.Reply) (impl.Client, int) {
	t.Helper()
	want, code := ownTake(nodes, c, r)
	return askTaking(t, what, nodes, c, r, want, code), code
}

// fullOf has heard one node as often as there is room for.
func fullOf(node int, a impl.Answer) impl.Client {
	return listening(allSay(a, slices.Repeat([]int{node}, mostReplies)...)...)
}

func TestTakingByClientsThatAreNotRight(t *testing.T) {
	a := firstAnswer()
	for what, c := range wrongClients() {
		for _, nodes := range append(noNodes(), nodeCounts...) {
			for _, r := range []impl.Reply{says(0, a), reply(0, c.Id, c.Stamp, a), reply(0, 8, askingStamp, a), {}, says(9, a), says(0, told(9, 1, 1, 1))} {
				askNotTaken(t, what, nodes, c, r, impl.ErrBad)
			}
		}
	}
	for _, nodes := range noNodes() {
		for _, c := range append(someClients(), fullOf(0, a)) {
			for _, r := range []impl.Reply{says(0, a), reply(0, c.Id, c.Stamp, a), {}} {
				askNotTaken(t, "no such nodes", nodes, c, r, impl.ErrBad)
			}
		}
	}
	askNotTaken(t, "right of 4, not of 1", 1, listening(says(0, a)), says(0, a), impl.ErrBad)
	askNotTaken(t, "right of 7, not of 4", 4, listening(allSay(a, 0, 1)...), says(2, a), impl.ErrBad)
	askNotTaken(t, "right of 7, not of 4", 4, listening(says(5, a)), says(2, a), impl.ErrBad)
	askNotTaken(t, "decided by its last reply", 4, listening(says(3, secondAnswer()), says(3, a), says(0, a)), says(1, a), impl.ErrBad)
}

// hearers are right clients in every standing: at rest, with nothing heard, with something, full.
func hearers(nodes int) map[string]impl.Client {
	a, b := firstAnswer(), secondAnswer()
	list := map[string]impl.Client{
		"new": {}, "new, of the reply's Id": restingClient(askingClient, 0), "at rest at the reply's call": restingClient(askingClient, askingStamp),
		"at rest ahead of it": restingClient(askingClient, askingStamp-1), "used up": restingClient(askingClient, usedStamp),
		"waiting": listening(), "another waiting": waitingClient(8, askingStamp), "waiting for an earlier one": waitingClient(askingClient, askingStamp-1),
		"waiting for a later one": waitingClient(askingClient, askingStamp+1), "waiting for its last": waitingClient(askingClient, usedStamp),
	}
	if nodes > 1 {
		list["with one reply"], list["full"] = listening(says(1, b)), fullOf(0, a)
		list["full, of different answers"] = listening(slices.Repeat([]impl.Reply{says(0, a), says(0, b)}, 20)...)
	}
	return list
}

func TestTakingRepliesThatAreNotRight(t *testing.T) {
	a := firstAnswer()
	for _, nodes := range nodeCounts {
		bad := slices.DeleteFunc(noVoices(nodes, a), func(r impl.Reply) bool { return ownReplyOK(nodes, r) })
		for node := range nodes {
			for _, mac := range otherReplyMacs(says(node, a)) {
				r := says(node, a)
				r.Mac = mac
				bad = append(bad, r)
			}
			for other := range 7 {
				r := says(node, a)
				r.Mac = says(other, a).Mac
				if other != node {
					bad = append(bad, r)
				}
			}
		}
		for what, c := range hearers(nodes) {
			askClient(t, what, nodes, c, true)
			for i, r := range bad {
				askNotTaken(t, fmt.Sprint(what, ", reply ", i), nodes, c, r, impl.ErrSigned)
			}
		}
	}
}

// Of what is not to the call, or to no call any more, all is late: what is to other clients, to earlier and to later calls too.
func TestTakingLateReplies(t *testing.T) {
	a := firstAnswer()
	for _, nodes := range nodeCounts {
		for what, c := range hearers(nodes) {
			for node := range nodes {
				for _, client := range []int{0, 6, 7, 8, 255} {
					for _, stamp := range []int{1, askingStamp % 256, askingStamp - 1, askingStamp, askingStamp + 1, usedStamp, topStamp} {
						if !c.Busy || client != c.Id || stamp != c.Stamp {
							askNotTaken(t, fmt.Sprint(what, ", to ", client, " ", stamp), nodes, c, reply(node, client, stamp, a), impl.ErrLate)
						}
					}
				}
			}
		}
	}
}

// A full client hears nothing more, not even what would decide; what is not right, or late, is told as that.
func TestTakingByFullClients(t *testing.T) {
	a, b := firstAnswer(), secondAnswer()
	for _, nodes := range []int{4, 7} {
		faults := ownFaults[nodes]
		f := slices.Repeat(firstNodes(faults), mostReplies/faults)
		for i, full := range []impl.Client{fullOf(0, a), fullOf(nodes-1, b), listening(allSay(a, f...)...), listening(slices.Repeat([]impl.Reply{says(0, a), says(0, b)}, 20)...)} {
			what := fmt.Sprint("full ", i)
			askClient(t, what, nodes, full, true)
			for node := range nodes {
				for _, said := range []impl.Answer{a, b, thirdAnswer()} {
					askNotTaken(t, what, nodes, full, says(node, said), impl.ErrFull)
					askNotTaken(t, what+", late", nodes, full, reply(node, askingClient, askingStamp-1, said), impl.ErrLate)
					askNotTaken(t, what+", to another", nodes, full, reply(node, askingClient+1, askingStamp, said), impl.ErrLate)
					forged := says(node, said)
					forged.Node = (node + 1) % nodes
					askNotTaken(t, what+", forged", nodes, full, forged, impl.ErrSigned)
				}
			}
			askNotTaken(t, what+", no node", nodes, full, says(nodes, a), impl.ErrSigned)
			room := copyOfClient(full)
			room.Replies = room.Replies[:mostReplies-1]
			last := askHeard(t, "the last one that there is room for", nodes, room, full.Replies[mostReplies-1])
			askNotTaken(t, "and one more", nodes, last, says(2, a), impl.ErrFull)
		}
		room := fullOf(0, b)
		room.Replies = room.Replies[:mostReplies-faults]
		for node := 1; node < faults; node++ {
			room = askHeard(t, "nearly full", nodes, room, says(node, b))
		}
		askDecided(t, "the fortieth decides", nodes, room, says(nodes-1, b), b)
	}
}

// Replies join in the order in which they come, those that were heard already too.
func TestTakingRepliesThatJoin(t *testing.T) {
	a, b := firstAnswer(), secondAnswer()
	for _, nodes := range []int{4, 7} {
		c := listening()
		for _, r := range []impl.Reply{says(1, a), says(1, a), says(1, b), says(nodes-1, thirdAnswer()), says(1, a), says(1, told(impl.AnFull, 0, -1, 0))} {
			c = askHeard(t, "decides nothing", nodes, c, r)
		}
		for len(c.Replies) < mostReplies {
			c = askHeard(t, "given again", nodes, c, says(1, a))
		}
		askNotTaken(t, "given again", nodes, c, says(1, a), impl.ErrFull)
	}
	c := listening()
	for _, node := range []int{3, 6, 3, 6} {
		c = askHeard(t, "f of 7, twice", 7, c, says(node, a))
	}
	askDecided(t, "a third of 7", 7, c, says(0, a), a)
}

// The reply by which f + 1 nodes gave one answer decides, at every number of nodes, at every place.
func TestTakingRepliesThatDecide(t *testing.T) {
	for _, nodes := range nodeCounts {
		faults := ownFaults[nodes]
		for i, a := range someAnswers() {
			for _, base := range []impl.Client{waitingClient(0, 1), waitingClient(255, 2), listening(), waitingClient(askingClient, usedStamp)} {
				c, order := base, firstNodes(nodes)
				mix(&drawn{seed: uint64(i + 1)}, order)
				for _, node := range order[:faults] {
					c = askHeard(t, "f nodes", nodes, c, reply(node, c.Id, c.Stamp, a))
				}
				askDecided(t, "f + 1 nodes", nodes, c, reply(order[faults], c.Id, c.Stamp, a), a)
			}
		}
	}
	end := askDecided(t, "at the greatest Stamp", 1, waitingClient(3, topStamp), reply(0, 3, topStamp, firstAnswer()), firstAnswer())
	askNotCalled(t, "at the greatest Stamp", 1, end, impl.LkQuery, "door", 0, impl.ErrForm)
}

// What was heard of other answers goes with the call, and the next call begins with nothing heard.
func TestTakingAmongOtherAnswers(t *testing.T) {
	a, b, x := firstAnswer(), secondAnswer(), thirdAnswer()
	for _, row := range []struct {
		nodes int
		heard []impl.Reply
		last  impl.Reply
		want  impl.Answer
	}{
		{4, []impl.Reply{says(0, a), says(1, b)}, says(2, b), b},
		{4, []impl.Reply{says(0, a), says(1, b)}, says(2, a), a},
		{4, []impl.Reply{says(0, a), says(1, b)}, says(0, b), b},
		{4, []impl.Reply{says(0, a), says(1, b), says(2, x)}, says(3, x), x},
		{7, []impl.Reply{says(0, a), says(1, a), says(2, b), says(3, b), says(4, x), says(5, x)}, says(6, b), b},
		{7, []impl.Reply{says(0, a), says(1, a), says(0, b), says(1, b)}, says(6, b), b},
		{7, []impl.Reply{says(0, a), says(1, a), says(0, a), says(1, a), says(5, x)}, says(5, a), a},
	} {
		c := listening(row.heard...)
		got := askDecided(t, saidText(row.heard), row.nodes, c, row.last, row.want)
		next, code := impl.ClientCall(row.nodes, got, impl.LkQuery, "door", 0)
		if code != impl.OK || next.Stamp != askingStamp+1 || len(next.Replies) != 0 {
			t.Errorf("the next call: %s %d", clientText(next), code)
		}
		for _, r := range append(row.heard, row.last) {
			askNotTaken(t, "to the call ahead", row.nodes, next, r, impl.ErrLate)
		}
	}
}

func TestTakeCodesInTheirOrder(t *testing.T) {
	a := firstAnswer()
	forged := says(0, a)
	forged.Node = 1
	tally := map[int]int{}
	for _, own := range nodeCounts {
		clients := hearers(own)
		for what, c := range wrongClients() {
			clients[what] = c
		}
		for what, c := range clients {
			for _, nodes := range []int{own, 5} {
				for _, r := range []impl.Reply{says(0, a), says(own-1, a), says(own, a), forged, {}, reply(0, 8, askingStamp, a), reply(0, askingClient, askingStamp-1, a), reply(0, askingClient, askingStamp+1, a)} {
					_, code := askTakeLikeOwn(t, what, nodes, c, r)
					tally[code]++
				}
			}
		}
	}
	for _, code := range []int{impl.OK, impl.ErrBad, impl.ErrSigned, impl.ErrLate, impl.ErrFull} {
		if tally[code] < 4 {
			t.Errorf("%s: %d times", impl.CodeWord(code), tally[code])
		}
	}
}
