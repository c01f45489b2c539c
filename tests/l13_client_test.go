package tests

import (
	"fmt"
	"math"
	"slices"
	"strings"
	"testing"

	"loop.example/g00292/impl"
)

const (
	mostReplies = 40
	usedStamp   = 4000
	topStamp    = 65535
)

// restingClient has called so often, and was answered each time.
func restingClient(id, stamp int) impl.Client {
	return impl.Client{Id: id, Stamp: stamp, Accepted: manyAnswers(stamp)}
}

func manyAnswers(count int) []impl.Answer {
	var list []impl.Answer
	for len(list) < count {
		list = append(list, someAnswers()...)
	}
	return list[:max(count, 0):max(count, 0)]
}

// waitingClient waits for the answer to its call of that stamp, and has heard these replies.
func waitingClient(id, stamp int, replies ...impl.Reply) impl.Client {
	c := restingClient(id, stamp-1)
	c.Stamp, c.Busy, c.Request, c.Replies = stamp, true, request(id, stamp, impl.LkAcquire, 30, "door"), replies
	return c
}

// listening waits for what is said to askingClient's call of askingStamp.
func listening(replies ...impl.Reply) impl.Client {
	return waitingClient(askingClient, askingStamp, replies...)
}

func copyOfClient(c impl.Client) impl.Client {
	c.Replies, c.Accepted = slices.Clone(c.Replies), slices.Clone(c.Accepted)
	return c
}

// sameClient takes an empty list and nil for the same.
func sameClient(a, b impl.Client) bool {
	return a.Id == b.Id && a.Stamp == b.Stamp && a.Busy == b.Busy && a.Request == b.Request &&
		slices.Equal(a.Replies, b.Replies) && slices.Equal(a.Accepted, b.Accepted)
}

func clientText(c impl.Client) string {
	return fmt.Sprintf("client %d, stamp %d, busy %v, %.80s, %d replies, %d accepted", c.Id, c.Stamp, c.Busy, fmt.Sprint(c.Request), len(c.Replies), len(c.Accepted))
}

func ownRequestOK(r impl.Request) bool {
	leased := r.Kind == 1 || r.Kind == 3
	if !leased && r.Kind != 2 && r.Kind != 4 || leased && (r.Lease < 1 || r.Lease > 1000) || !leased && r.Lease != 0 {
		return false
	}
	for at, sign := range []byte(r.Name) {
		if !isNameByte(int(sign), at == 0) {
			return false
		}
	}
	return r.Client >= 0 && r.Client <= 255 && r.Stamp >= 1 && r.Stamp <= topStamp && r.Name != "" && len(r.Name) <= 12
}

// ownClientOK is the chapter's sentence, part by part.
func ownClientOK(nodes int, c impl.Client) bool {
	_, known := ownFaults[nodes]
	if !known || c.Id < 0 || c.Id > 255 || c.Stamp < 0 || c.Stamp > topStamp {
		return false
	}
	for _, a := range c.Accepted {
		if !inBounds(impl.Reply{Stamp: 1, Answer: a}) {
			return false
		}
	}
	if !c.Busy {
		return len(c.Accepted) == c.Stamp && c.Request == impl.Request{} && len(c.Replies) == 0
	}
	for _, r := range c.Replies {
		if !ownReplyOK(nodes, r) || r.Client != c.Id || r.Stamp != c.Stamp {
			return false
		}
	}
	_, code := ownCount(nodes, c.Id, c.Stamp, c.Replies)
	return len(c.Accepted) == c.Stamp-1 && ownRequestOK(c.Request) && c.Request.Client == c.Id && c.Request.Stamp == c.Stamp &&
		len(c.Replies) <= mostReplies && code == impl.ErrQuorum
}

func askClient(t *testing.T, what string, nodes int, c impl.Client, want bool) {
	t.Helper()
	if got := impl.ClientOK(nodes, c); got != want {
		t.Errorf("ClientOK of %d, %.160s, %s: %v", nodes, what, clientText(c), got)
	}
}

// askClients asks it for all numbers of nodes; those that are none have no right client.
func askClients(t *testing.T, what string, c impl.Client, want bool) {
	t.Helper()
	for _, nodes := range nodeCounts {
		askClient(t, what, nodes, c, want)
	}
	for _, nodes := range []int{0, 2, 5, 10, -4} {
		askClient(t, what, nodes, c, false)
	}
}

// someClients are right ones for any number of nodes, at rest and waiting.
func someClients() []impl.Client {
	return []impl.Client{
		{}, restingClient(0, 0), restingClient(255, 0), restingClient(askingClient, 1), restingClient(askingClient, 5), restingClient(3, askingStamp),
		waitingClient(0, 1), waitingClient(255, 1), waitingClient(askingClient, 2), waitingClient(askingClient, 6), listening(),
	}
}

func TestNewClients(t *testing.T) {
	for _, id := range append(edges(0, 255), 7, 10, 1<<8+7, 1<<32+7, math.MinInt+7) {
		want, wantCode := impl.Client{Id: id}, impl.OK
		if id < 0 || id > 255 {
			want, wantCode = impl.Client{}, impl.ErrRange
		}
		got, code := impl.NewClient(id)
		if !sameClient(got, want) || code != wantCode {
			t.Errorf("NewClient %d: %s %d, not %s %d", id, clientText(got), code, clientText(want), wantCode)
		}
		if code == impl.OK {
			askClients(t, "a new one", got, true)
		}
	}
}

func TestClientsThatAreRight(t *testing.T) {
	for _, c := range someClients() {
		askClients(t, "a right one", c, true)
		if !ownClientOK(4, c) {
			t.Errorf("%s is right", clientText(c))
		}
		c.Replies = []impl.Reply{}
		askClients(t, "with an empty list of replies", c, true)
		if len(c.Accepted) == 0 {
			c.Accepted = []impl.Answer{}
			askClients(t, "with an empty list of answers", c, true)
		}
	}
}

func TestClientsOfNoNodes(t *testing.T) {
	for _, nodes := range noNodes() {
		for _, c := range append(someClients(), listening(says(0, firstAnswer()))) {
			askClient(t, "no such nodes", nodes, c, false)
		}
	}
}

// Each Id with all else as it is asked for: that of the request too, where there is one.
func TestClientIds(t *testing.T) {
	for _, id := range append(edges(0, 255), 1<<8+7, 1<<32+7, math.MinInt+7) {
		want := id >= 0 && id <= 255
		for _, stamp := range []int{0, 1, 3} {
			askClients(t, "at rest", restingClient(id, stamp), want)
			askClients(t, "waiting", waitingClient(id, stamp+1), want)
		}
		c := waitingClient(askingClient, 3)
		c.Id = id
		askClients(t, "waiting with another's request", c, id == askingClient)
		r := reply(0, id, 3, firstAnswer())
		askClient(t, "waiting with a reply to it", 4, waitingClient(id, 3, r), want)
		askClient(t, "waiting with a reply to another", 4, waitingClient(id, 3, reply(0, id^1, 3, firstAnswer())), false)
	}
}

func TestClientStamps(t *testing.T) {
	for _, stamp := range []int{0, 1, 2, 255, 256, 257, 3999, usedStamp, 4001, 4095, 4096, 4097, 65534, topStamp} {
		askClients(t, "at rest", restingClient(askingClient, stamp), true)
		askClients(t, "waiting", waitingClient(askingClient, stamp), stamp > 0)
		askClients(t, "at rest with a Stamp more", impl.Client{Id: 7, Stamp: stamp + 1, Accepted: manyAnswers(stamp)}, false)
	}
	askClients(t, "at rest", restingClient(askingClient, topStamp+1), false)
	askClients(t, "at rest", restingClient(askingClient, 2*topStamp), false)
	askClients(t, "waiting", waitingClient(askingClient, topStamp+1), false)
	askClients(t, "waiting", waitingClient(askingClient, topStamp+2), false)
	for _, stamp := range []int{-1, -2, -256, 1<<16 + 3, 1<<32 + 3, math.MinInt, math.MinInt + 1, math.MinInt + 3, math.MaxInt} {
		for _, count := range []int{0, 2, 3} {
			c := restingClient(askingClient, count)
			c.Stamp = stamp
			askClients(t, "at rest", c, false)
			c.Busy, c.Request = true, request(askingClient, stamp, impl.LkQuery, 0, "door")
			askClients(t, "waiting", c, false)
			c.Request.Stamp = 3
			askClients(t, "waiting", c, false)
		}
	}
}

func TestClientsCountTheirAnswers(t *testing.T) {
	for _, stamp := range []int{0, 1, 2, 5, askingStamp, usedStamp, topStamp} {
		for count := max(0, stamp-3); count <= stamp+2; count++ {
			rests, waits := restingClient(askingClient, count), waitingClient(askingClient, count+1)
			rests.Stamp, waits.Stamp, waits.Request.Stamp = stamp, stamp, stamp
			askClients(t, fmt.Sprint(count, " answers"), rests, count == stamp)
			askClients(t, fmt.Sprint(count, " answers"), waits, count == stamp-1)
		}
	}
	for _, c := range someClients() {
		c.Busy = !c.Busy
		askClients(t, "Busy turned", c, false)
	}
	swapped := listening()
	swapped.Busy, swapped.Request, swapped.Stamp = false, impl.Request{}, askingStamp-1
	askClients(t, "waiting no more, one Stamp earlier", swapped, true)
}

// Each number of an answer by itself, at each place.
func TestClientsAnswersAreRight(t *testing.T) {
	for _, base := range []impl.Client{restingClient(askingClient, 3), waitingClient(askingClient, 4)} {
		for at := range 3 {
			for _, f := range replyFields()[3:] {
				for _, n := range f.numbers() {
					c, r := copyOfClient(base), impl.Reply{Answer: told(impl.AnHeld, 5, 9, 70)}
					*f.at(&r) = n
					c.Accepted[at] = r.Answer
					askClients(t, fmt.Sprint(f.name, " ", n, " at ", at), c, n >= f.least && n <= f.most)
				}
			}
			c := copyOfClient(base)
			c.Accepted[at] = impl.Answer{}
			askClients(t, fmt.Sprint("no answer at ", at), c, false)
		}
	}
	for _, c := range []impl.Client{restingClient(askingClient, topStamp), waitingClient(askingClient, topStamp)} {
		c.Accepted[len(c.Accepted)-1].Kind = 9
		askClients(t, "the last one of many", c, false)
	}
}

func TestClientsAtRestHaveNoRequest(t *testing.T) {
	for _, base := range []impl.Client{{}, restingClient(0, 2), restingClient(askingClient, 0), restingClient(askingClient, askingStamp)} {
		requests := []impl.Request{{Name: "a"}, {Name: "\x00"}, {Name: " "}, {Name: longText()}, request(base.Id, base.Stamp, 1, 30, "door"), request(base.Id, base.Stamp+1, 4, 0, "door")}
		for _, n := range []int{-1, 1, 2, 256, 1 << 32, math.MinInt, math.MaxInt} {
			requests = append(requests, impl.Request{Client: n}, impl.Request{Stamp: n}, impl.Request{Kind: n}, impl.Request{Lease: n})
		}
		for _, r := range requests {
			c := base
			c.Request = r
			askClients(t, fmt.Sprintf("at rest with %.60v", r), c, false)
		}
	}
}

func TestClientsAtRestHaveNoReplies(t *testing.T) {
	for _, base := range []impl.Client{{}, restingClient(askingClient, 0), restingClient(askingClient, askingStamp), restingClient(askingClient, askingStamp-1)} {
		for _, list := range [][]impl.Reply{{{}}, {says(0, firstAnswer())}, allSay(firstAnswer(), 0, 1, 2, 3), make([]impl.Reply, 41)} {
			c := base
			c.Replies = list
			askClients(t, fmt.Sprint("at rest with ", saidText(list)), c, false)
		}
	}
}

func TestWaitingClientsRequests(t *testing.T) {
	base := listening()
	ask := func(what string, want bool, change func(r *impl.Request)) {
		t.Helper()
		c := base
		change(&c.Request)
		askClients(t, what, c, want)
		if got := ownClientOK(4, c); got != want {
			t.Errorf("%s: %v", what, got)
		}
	}
	for kind := impl.LkAcquire; kind <= impl.LkQuery; kind++ {
		ask(fmt.Sprint("kind ", kind), true, func(r *impl.Request) { *r = rightRequest(kind) })
		for _, lease := range edges(0, 1000) {
			leased := kind == impl.LkAcquire || kind == impl.LkRenew
			want := leased && lease >= 1 && lease <= 1000 || !leased && lease == 0
			ask(fmt.Sprint("kind ", kind, ", lease ", lease), want, func(r *impl.Request) { r.Kind, r.Lease = kind, lease })
		}
	}
	for _, kind := range []int{-1, 0, 5, 257, 1<<32 + 1, math.MinInt, math.MaxInt} {
		for _, lease := range []int{0, 30} {
			ask(fmt.Sprint("kind ", kind), false, func(r *impl.Request) { r.Kind, r.Lease = kind, lease })
		}
	}
	for _, name := range []string{"", "1a", "a b", "a-", "\xff", strings.Repeat("a", 13), strings.Repeat("a", 40), longText()} {
		ask(fmt.Sprintf("name %.20q", name), false, func(r *impl.Request) { r.Name = name })
	}
	ask("a name of 12 bytes", true, func(r *impl.Request) { r.Name = strings.Repeat("a", 12) })
	for _, n := range append(edges(0, topStamp), askingClient-1, askingClient+1, askingClient+256, askingStamp-1, askingStamp+1) {
		ask(fmt.Sprint("of client ", n), n == askingClient, func(r *impl.Request) { r.Client = n })
		ask(fmt.Sprint("of stamp ", n), n == askingStamp, func(r *impl.Request) { r.Stamp = n })
	}
	ask("no request", false, func(r *impl.Request) { *r = impl.Request{} })
}

func TestWaitingClientsCountTheirReplies(t *testing.T) {
	a := firstAnswer()
	for _, size := range []int{0, 1, 2, 39, 40, 41, 42, 60, 61, impl.MaxList, impl.MaxList + 1} {
		for _, nodes := range nodeCounts {
			again := allSay(a, slices.Repeat([]int{0}, size)...)
			askClient(t, "one node, many times", nodes, listening(again...), size == 0 || nodes > 1 && size <= mostReplies)
			askClient(t, "replies of noughts", nodes, listening(make([]impl.Reply, size)...), size == 0)
		}
	}
	askClient(t, "two nodes of 7, 40 times", 7, listening(allSay(a, slices.Repeat([]int{6, 2}, 20)...)...), true)
	askClient(t, "two nodes of 7, 42 times", 7, listening(allSay(a, slices.Repeat([]int{6, 2}, 21)...)...), false)
}

// Those that count for nothing are not heard by a right client either, wherever they stand.
func TestWaitingClientsRepliesAreRight(t *testing.T) {
	a, b := firstAnswer(), secondAnswer()
	for _, nodes := range nodeCounts {
		for i, bad := range noVoices(nodes, a) {
			askClient(t, fmt.Sprint("reply ", i, " alone"), nodes, listening(bad), false)
			if nodes == 1 {
				continue
			}
			for at := range 3 {
				list := slices.Insert([]impl.Reply{says(0, a), says(1, b)}, at, bad)
				askClient(t, fmt.Sprint("reply ", i, " at ", at), nodes, listening(list...), false)
			}
		}
		earlier, later := reply(0, askingClient, askingStamp-1, a), reply(0, askingClient, askingStamp+1, a)
		askClient(t, "to an earlier call", nodes, listening(earlier), false)
		askClient(t, "to a later call", nodes, listening(later), false)
		askClient(t, "to another client", nodes, listening(reply(0, askingClient+1, askingStamp, a)), false)
	}
}

func TestWaitingClientsAreUndecided(t *testing.T) {
	a, b, c := firstAnswer(), secondAnswer(), thirdAnswer()
	for _, nodes := range nodeCounts {
		faults := ownFaults[nodes]
		askClient(t, "f nodes", nodes, listening(allSay(a, firstNodes(faults)...)...), true)
		askClient(t, "f nodes, again and again", nodes, listening(allSay(a, slices.Repeat(firstNodes(faults), 20)...)...), true)
		askClient(t, "f + 1 nodes", nodes, listening(allSay(a, firstNodes(faults+1)...)...), false)
		askClient(t, "all nodes", nodes, listening(allSay(a, firstNodes(nodes)...)...), false)
		late := append(allSay(a, slices.Repeat([]int{nodes - 1}, mostReplies-faults-1)...), allSay(b, firstNodes(faults+1)...)...)
		askClient(t, "f + 1 nodes at the end of 40", nodes, listening(late...), false)
	}
	for _, row := range []struct {
		nodes int
		list  []impl.Reply
		want  bool
	}{
		{4, []impl.Reply{says(0, a), says(1, b)}, true},
		{4, []impl.Reply{says(0, a), says(1, b), says(2, c)}, true},
		{4, []impl.Reply{says(0, a), says(0, b), says(0, c)}, true},
		{4, []impl.Reply{says(0, a), says(1, b), says(2, c), says(3, c)}, false},
		{4, []impl.Reply{says(3, b), says(1, c), says(3, c)}, false},
		{7, []impl.Reply{says(0, a), says(1, a), says(2, b), says(3, b), says(4, c), says(5, c)}, true},
		{7, []impl.Reply{says(0, a), says(1, a), says(0, b), says(1, b), says(0, c), says(1, c)}, true},
		{7, []impl.Reply{says(0, a), says(1, a), says(2, b), says(3, b), says(4, c), says(5, c), says(6, a)}, false},
		{1, []impl.Reply{says(0, c)}, false},
	} {
		askClient(t, saidText(row.list), row.nodes, listening(row.list...), row.want)
	}
}

// All short lists of right replies: a client is right with just those that counting does not decide.
func TestWaitingClientsOfEveryShortList(t *testing.T) {
	for _, row := range []struct{ nodes, from, size int }{{1, 1, 2}, {4, 3, 4}, {7, 4, 4}} {
		var every []impl.Reply
		for node := range row.from {
			every = append(every, says(node, firstAnswer()), says(node, secondAnswer()))
		}
		lists := [][]impl.Reply{nil}
		for at := 0; at < len(lists); at++ {
			list := lists[at]
			_, code := ownCount(row.nodes, askingClient, askingStamp, list)
			askClient(t, saidText(list), row.nodes, listening(list...), code == impl.ErrQuorum)
			if len(list) < row.size {
				for _, r := range every {
					lists = append(lists, append(slices.Clip(list), r))
				}
			}
		}
	}
}
