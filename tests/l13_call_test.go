package tests

import (
	"fmt"
	"math"
	"strings"
	"testing"

	"loop.example/g00292/impl"
)

// ownCall is the chapter's sentence, code by code.
func ownCall(nodes int, c impl.Client, kind int, name string, lease int) (impl.Client, int) {
	r := request(c.Id, c.Stamp+1, kind, lease, name)
	switch {
	case len(name) > impl.MaxText:
		return impl.Client{}, impl.ErrLong
	case !ownClientOK(nodes, c):
		return impl.Client{}, impl.ErrBad
	case c.Busy:
		return c, impl.ErrAgain
	case c.Stamp == usedStamp:
		return c, impl.ErrUsed
	case !ownRequestOK(r):
		return c, impl.ErrForm
	}
	c.Stamp, c.Busy, c.Request = r.Stamp, true, r
	return c, impl.OK
}

func askCalling(t *testing.T, what string, nodes int, c impl.Client, kind int, name string, lease int, want impl.Client, wantCode int) {
	t.Helper()
	got, code := impl.ClientCall(nodes, c, kind, name, lease)
	if !sameClient(got, want) || code != wantCode {
		t.Errorf("ClientCall of %d, %.160s, %s, %d %.40q %d: %s %d, not %s %d", nodes, what, clientText(c), kind, name, lease, clientText(got), code, clientText(want), wantCode)
	}
}

// askCalled holds what is called to all that the chapter says of it.
func askCalled(t *testing.T, nodes int, c impl.Client, kind int, name string, lease int) {
	t.Helper()
	want := c
	want.Stamp, want.Busy, want.Request = c.Stamp+1, true, request(c.Id, c.Stamp+1, kind, lease, name)
	askCalling(t, "a call", nodes, c, kind, name, lease, want, impl.OK)
	got, _ := impl.ClientCall(nodes, c, kind, name, lease)
	askClient(t, "what is called", nodes, got, true)
	askCalling(t, "and one more", nodes, got, kind, name, lease, want, impl.ErrAgain)
}

func askNotCalled(t *testing.T, what string, nodes int, c impl.Client, kind int, name string, lease, code int) {
	t.Helper()
	want := c
	if code == impl.ErrBad || code == impl.ErrLong {
		want = impl.Client{}
	}
	askCalling(t, what, nodes, c, kind, name, lease, want, code)
}

func askCallLikeOwn(t *testing.T, what string, nodes int, c impl.Client, kind int, name string, lease int) {
	t.Helper()
	want, code := ownCall(nodes, c, kind, name, lease)
	askCalling(t, what, nodes, c, kind, name, lease, want, code)
}

// wrongClients are not right, whatever the nodes are: each by one thing alone.
func wrongClients() map[string]impl.Client {
	a := firstAnswer()
	fewer, more, spoilt := restingClient(7, 3), restingClient(7, 3), restingClient(7, 3)
	fewer.Stamp, more.Stamp, spoilt.Accepted[1] = 4, 2, told(9, 1, 1, 1)
	asking, hearing := restingClient(7, 3), restingClient(7, 3)
	asking.Request, hearing.Replies = request(7, 3, impl.LkAcquire, 30, "door"), []impl.Reply{reply(0, 7, 3, a)}
	other, early, formless, idle, without := listening(), listening(), listening(), listening(), listening()
	other.Request.Client, early.Request.Stamp, formless.Request.Lease, idle.Busy, without.Accepted = 8, askingStamp-1, 0, false, nil
	return map[string]impl.Client{
		"Id -1": restingClient(-1, 3), "Id 256": restingClient(256, 3), "Stamp -1": {Id: 7, Stamp: -1}, "Stamp 65536": restingClient(7, topStamp+1),
		"an answer too few": fewer, "an answer too many": more, "an answer that is not right": spoilt, "a request at rest": asking, "a reply at rest": hearing,
		"another's request": other, "an earlier request": early, "a request that is not right": formless, "not Busy with a request": idle, "no answers": without,
		"41 replies": listening(allSay(a, make([]int, 41)...)...), "a reply to another": listening(reply(0, 8, askingStamp, a)), "a late reply": listening(reply(0, 7, askingStamp-1, a)),
		"a reply without a mark": listening(impl.Reply{Node: 0, Client: 7, Stamp: askingStamp, Answer: a}), "decided": listening(allSay(a, 0, 1, 2, 3, 4, 5, 6)...),
		"Busy at Stamp 0": {Id: 7, Busy: true, Request: request(7, 1, impl.LkQuery, 0, "door")}, "Busy alone": {Busy: true},
	}
}

func TestCallsOfClientsThatAreNotRight(t *testing.T) {
	for what, c := range wrongClients() {
		askClients(t, what, c, false)
		for _, nodes := range append(noNodes(), nodeCounts...) {
			askNotCalled(t, what, nodes, c, impl.LkAcquire, "door", 30, impl.ErrBad)
			askNotCalled(t, what, nodes, c, 0, "door", 30, impl.ErrBad)
			askNotCalled(t, what, nodes, c, impl.LkQuery, "1", 0, impl.ErrBad)
		}
	}
	for _, nodes := range noNodes() {
		for _, c := range append(someClients(), restingClient(7, usedStamp)) {
			askNotCalled(t, "no such nodes", nodes, c, impl.LkAcquire, "door", 30, impl.ErrBad)
			askNotCalled(t, "no such nodes", nodes, c, 9, "", -1, impl.ErrBad)
		}
	}
}

// Being Busy is told ahead of being used up and of a request that is not right.
func TestCallsOfBusyClients(t *testing.T) {
	a, b := firstAnswer(), secondAnswer()
	clients := []impl.Client{waitingClient(0, 1), listening(), waitingClient(7, usedStamp-1), waitingClient(7, usedStamp), waitingClient(7, usedStamp+1), waitingClient(7, topStamp)}
	for _, nodes := range nodeCounts {
		if nodes > 1 {
			clients = append(clients, listening(says(0, a), says(1, b)), listening(allSay(a, make([]int, 40)...)...))
		}
		for _, c := range clients {
			askClient(t, "a Busy one", nodes, c, true)
			for kind := -1; kind <= 6; kind++ {
				for _, lease := range []int{-1, 0, 30, 1001} {
					for _, name := range []string{"door", "", "1", strings.Repeat("a", impl.MaxText)} {
						askNotCalled(t, "a Busy one", nodes, c, kind, name, lease, impl.ErrAgain)
					}
				}
			}
		}
	}
}

// One Stamp alone is used up: on both sides of it a client calls, also far beyond it.
func TestCallsAroundTheUsedStamp(t *testing.T) {
	for _, nodes := range nodeCounts {
		for _, stamp := range []int{0, 1, 2, 255, 256, usedStamp - 2, usedStamp - 1, usedStamp + 1, usedStamp + 2, 4095, 4096, 4097, 2 * usedStamp, 32767, 32768, topStamp - 2, topStamp - 1} {
			c := restingClient(7, stamp)
			askCalled(t, nodes, c, impl.LkAcquire, "door", 30)
			askCalled(t, nodes, c, impl.LkQuery, "door", 0)
			askNotCalled(t, "a kind that is not right", nodes, c, 5, "door", 30, impl.ErrForm)
			askNotCalled(t, "a lease that is not right", nodes, c, impl.LkAcquire, "door", 0, impl.ErrForm)
			askNotCalled(t, "a name that is not right", nodes, c, impl.LkQuery, "", 0, impl.ErrForm)
		}
		c := restingClient(7, usedStamp)
		askNotCalled(t, "used up", nodes, c, impl.LkAcquire, "door", 30, impl.ErrUsed)
		askNotCalled(t, "used up ahead of the kind", nodes, c, 5, "door", 30, impl.ErrUsed)
		askNotCalled(t, "used up ahead of the lease", nodes, c, impl.LkRenew, "door", 0, impl.ErrUsed)
		askNotCalled(t, "used up ahead of the name", nodes, c, impl.LkQuery, "", 0, impl.ErrUsed)
	}
}

// Behind the greatest Stamp no request is right, of whatever kind.
func TestCallsAtTheGreatestStamp(t *testing.T) {
	for _, nodes := range nodeCounts {
		for _, id := range []int{0, 7, 255} {
			c := restingClient(id, topStamp)
			for kind := range 6 {
				for _, lease := range []int{0, 30} {
					askNotCalled(t, "the greatest Stamp", nodes, c, kind, "door", lease, impl.ErrForm)
				}
			}
		}
	}
}

// No other Stamp is used up: all near the used one are asked, and one of every thousand or so.
func TestOneStampAloneIsUsed(t *testing.T) {
	answers := manyAnswers(topStamp)
	for stamp := range topStamp + 1 {
		if stamp%997 != 0 && (stamp < usedStamp-60 || stamp > usedStamp+60) {
			continue
		}
		c := impl.Client{Id: 7, Stamp: stamp, Accepted: answers[:stamp]}
		askCallLikeOwn(t, "at rest", 4, c, impl.LkRenew, "door", 30)
		askCallLikeOwn(t, "at rest", 4, c, impl.LkRenew, "door", 0)
	}
}

func TestCallsOfEveryKind(t *testing.T) {
	long := strings.Repeat("a", 12)
	names := map[string]bool{
		"a": true, "_": true, "Z9": true, "door_1": true, long: true, "": false, long + "a": false, strings.Repeat("a", 40): false, strings.Repeat("a", 41): false,
		"9": false, "a b": false, "a\n": false, "a\x00": false, "\xff": false, "\u00e9": false, strings.Repeat("a", impl.MaxText): false,
	}
	for i, c := range []impl.Client{{}, restingClient(255, 0), restingClient(askingClient, 5)} {
		nodes := nodeCounts[i]
		for _, kind := range []int{math.MinInt, -1, 0, 1, 2, 3, 4, 5, 6, 257, 1<<32 + 1, math.MaxInt} {
			for _, lease := range append(edges(0, 1000), 500) {
				for name, right := range names {
					right = right && ((kind == 1 || kind == 3) && lease >= 1 && lease <= 1000 || (kind == 2 || kind == 4) && lease == 0)
					if right {
						askCalled(t, nodes, c, kind, name, lease)
					} else {
						askNotCalled(t, "a request that is not right", nodes, c, kind, name, lease, impl.ErrForm)
					}
				}
			}
		}
	}
}

// A text that is too long is told ahead of all else, and then the client is an empty one.
func TestCallsOfLongNames(t *testing.T) {
	clients := []impl.Client{{}, restingClient(7, 5), listening(), restingClient(7, usedStamp), waitingClient(7, usedStamp+1)}
	for _, c := range wrongClients() {
		clients = append(clients, c)
	}
	for _, nodes := range []int{1, 4, 7, 0, 5, math.MinInt} {
		for i, c := range clients {
			for _, name := range []string{longText(), strings.Repeat("a", 2*impl.MaxText), strings.Repeat("\xff", impl.MaxText+1)} {
				askNotCalled(t, "a long name", nodes, c, impl.LkAcquire, name, 30, impl.ErrLong)
				askNotCalled(t, "a long name", nodes, c, 9, name, -1, impl.ErrLong)
			}
			askCallLikeOwn(t, fmt.Sprint("client ", i), nodes, c, impl.LkAcquire, strings.Repeat("a", impl.MaxText), 30)
		}
	}
}

// A client's id stands in its request, and what it accepted stays.
func TestCallsOfEveryClient(t *testing.T) {
	for id := range 256 {
		nodes := nodeCounts[id%3]
		askCalled(t, nodes, restingClient(id, id%7), id%2*2+1, "door", id+1)
		askCalled(t, nodes, restingClient(id, id%5), id%2*2+2, "door", 0)
	}
}

// Each code ahead of those behind it, over all clients, kinds, names and leases together.
func TestCallCodesInTheirOrder(t *testing.T) {
	clients := append(someClients(), restingClient(7, usedStamp-1), restingClient(7, usedStamp), restingClient(7, usedStamp+1), restingClient(7, topStamp), waitingClient(7, usedStamp), listening(says(2, firstAnswer())))
	for _, c := range wrongClients() {
		clients = append(clients, c)
	}
	tally := map[int]int{}
	for i, c := range clients {
		for _, nodes := range []int{1, 4, 7, 5} {
			for kind := range 6 {
				for _, name := range []string{"door", "", longText()} {
					for _, lease := range []int{0, 30} {
						askCallLikeOwn(t, fmt.Sprint("client ", i), nodes, c, kind, name, lease)
						_, code := impl.ClientCall(nodes, c, kind, name, lease)
						tally[code]++
					}
				}
			}
		}
	}
	for _, code := range []int{impl.OK, impl.ErrLong, impl.ErrBad, impl.ErrAgain, impl.ErrUsed, impl.ErrForm} {
		if tally[code] < 10 {
			t.Errorf("%s: %d times", impl.CodeWord(code), tally[code])
		}
	}
}
