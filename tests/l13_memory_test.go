package tests

import (
	"fmt"
	"slices"
	"testing"

	"loop.example/g00292/impl"
)

// roomyClient is a client whose lists have elements behind their ends; the text tells them too.
func roomyClient(c impl.Client) (impl.Client, func() string) {
	replies, allReplies := roomy(c.Replies, says(5, thirdAnswer()))
	accepted, allAccepted := roomy(c.Accepted, told(impl.AnTwice, 77, 77, 77))
	c.Replies, c.Accepted = replies, accepted
	return c, func() string { return fmt.Sprintf("%+v %+v %+v", c, allReplies, allAccepted) }
}

// ruinClient writes into all memory that a client's lists reach.
func ruinClient(c impl.Client) {
	ruin(c.Replies, impl.Reply{Node: -9, Mac: "ruined"})
	ruin(c.Accepted, told(-9, -9, -9, -9))
}

// clientStep is a call or a reply taken.
type clientStep struct {
	name string
	do   func(c impl.Client) (impl.Client, int)
}

// clientSteps are steps of every kind and with every code, some of which change a client and some of which do not.
func clientSteps(nodes int) []clientStep {
	var steps []clientStep
	call := func(kind int, name string, lease int) {
		steps = append(steps, clientStep{fmt.Sprintf("ClientCall of %d, %d %.20q %d", nodes, kind, name, lease), func(c impl.Client) (impl.Client, int) { return impl.ClientCall(nodes, c, kind, name, lease) }})
	}
	call(impl.LkAcquire, "door", 30)
	call(impl.LkAcquire, "door", 0)
	call(9, "", -1)
	call(impl.LkQuery, longText(), 0)
	forged := says(0, firstAnswer())
	forged.Node = 1
	for i, r := range []impl.Reply{says(0, firstAnswer()), says(0, secondAnswer()), says(2, firstAnswer()), says(3, secondAnswer()), reply(0, 8, askingStamp, firstAnswer()), reply(0, askingClient, askingStamp-1, firstAnswer()), forged, {}, {Mac: longText()}} {
		steps = append(steps, clientStep{fmt.Sprintf("ClientTake of %d, reply %d", nodes, i), func(c impl.Client) (impl.Client, int) { return impl.ClientTake(nodes, c, r) }})
	}
	return steps
}

// steppers are clients of every standing, right and not, but those of very many calls, which take long to tell.
func steppers(nodes int) []impl.Client {
	list := []impl.Client{listening(allSay(firstAnswer(), 0, 1)...), restingClient(askingClient, usedStamp-1), waitingClient(askingClient, 2), {Replies: []impl.Reply{}, Accepted: []impl.Answer{}}}
	for _, c := range hearers(nodes) {
		list = append(list, c)
	}
	for _, c := range wrongClients() {
		list = append(list, c)
	}
	return slices.DeleteFunc(list, func(c impl.Client) bool { return len(c.Accepted) > usedStamp })
}

func TestClientArgumentsAreKept(t *testing.T) {
	for _, own := range nodeCounts {
		for _, base := range steppers(own) {
			c, text := roomyClient(base)
			ahead := text()
			for _, nodes := range []int{own, 5} {
				impl.ClientOK(nodes, c)
				for _, step := range clientSteps(nodes) {
					got, code := step.do(c)
					if text() != ahead {
						t.Fatalf("%s, %s: writes into its argument or behind its ends", step.name, clientText(base))
					}
					want, wantCode := step.do(base)
					if !sameClient(got, want) || code != wantCode {
						t.Fatalf("%s, %s: hangs on what lies behind the ends", step.name, clientText(base))
					}
				}
			}
		}
	}
}

// What comes back is new memory, also where the client comes back as it was.
func TestClientsAreNewMemory(t *testing.T) {
	tally := map[int]int{}
	for _, nodes := range nodeCounts {
		for _, base := range steppers(nodes) {
			for _, step := range clientSteps(nodes) {
				want, wantCode := step.do(base)
				want = copyOfClient(want)
				c, text := roomyClient(base)
				ahead := text()
				got, code := step.do(c)
				again, _ := step.do(c)
				ruinClient(again)
				if text() != ahead {
					t.Fatalf("%s, %s: the argument changes with the answer", step.name, clientText(base))
				}
				if !sameClient(got, want) || code != wantCode {
					t.Fatalf("%s, %s: two answers share memory", step.name, clientText(base))
				}
				ruinClient(c)
				if !sameClient(got, want) {
					t.Fatalf("%s, %s: the answer changes with the argument", step.name, clientText(base))
				}
				tally[code]++
			}
		}
	}
	for _, code := range []int{impl.OK, impl.ErrLong, impl.ErrBad, impl.ErrAgain, impl.ErrUsed, impl.ErrForm, impl.ErrSigned, impl.ErrLate, impl.ErrFull} {
		if tally[code] == 0 {
			t.Errorf("%s: never", impl.CodeWord(code))
		}
	}
}

// What was answered ahead stays as it is, however a client goes on from there, and in however many ways.
func TestClientsGoOnApart(t *testing.T) {
	for _, nodes := range []int{4, 7} {
		c := listening(says(0, firstAnswer()))
		c, _ = impl.ClientTake(nodes, c, says(0, secondAnswer()))
		kept := copyOfClient(c)
		one, _ := impl.ClientTake(nodes, c, says(0, firstAnswer()))
		other, _ := impl.ClientTake(nodes, c, says(0, thirdAnswer()))
		if !sameClient(c, kept) || one.Replies[2] != says(0, firstAnswer()) || other.Replies[2] != says(0, thirdAnswer()) {
			t.Errorf("%d nodes: %v, %v, %v", nodes, saidText(c.Replies), saidText(one.Replies), saidText(other.Replies))
		}
	}
	c := waitingClient(askingClient, 3)
	one, _ := impl.ClientTake(1, c, reply(0, askingClient, 3, firstAnswer()))
	other, _ := impl.ClientTake(1, c, reply(0, askingClient, 3, secondAnswer()))
	if one.Accepted[2] != firstAnswer() || other.Accepted[2] != secondAnswer() || len(c.Accepted) != 2 {
		t.Errorf("%v, %v", one.Accepted, other.Accepted)
	}
}
