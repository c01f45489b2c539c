package tests

import (
	"fmt"
	"math"
	"slices"
	"testing"

	"loop.example/g00292/impl"
)

// ownAnswers are what a log of right bodies answers, body by body, on locks of the tests' own.
func ownAnswers(log []string) ([]impl.Request, []impl.Answer) {
	own := ownLocksOf(emptyTable())
	var asked []impl.Request
	var answers []impl.Answer
	for _, text := range log {
		x, _ := impl.ReadBatch([]byte(text))
		if x.Null {
			asked, answers = append(asked, impl.Request{}), append(answers, impl.Answer{})
			continue
		}
		asked, answers = append(asked, x.Request), append(answers, own.ask(ownMedian(x.Readings), x.Request))
	}
	return asked, answers
}

// ownNodeAnswer is the answer at the first place of a call in a log of right bodies.
func ownNodeAnswer(log []string, client, stamp int) (impl.Answer, int) {
	asked, answers := ownAnswers(log)
	for at, r := range asked {
		if r.Kind != 0 && r.Client == client && r.Stamp == stamp {
			return answers[at], impl.OK
		}
	}
	return impl.Answer{}, impl.ErrNone
}

func askNodeAnswer(t *testing.T, what string, nodes int, log []string, client, stamp int, want impl.Answer, wantCode int) {
	t.Helper()
	askKept(t, "NodeAnswer", log, "behind", func(log []string) {
		got, code := impl.NodeAnswer(nodes, log, client, stamp)
		if got != want || code != wantCode {
			t.Errorf("NodeAnswer, %s, %d nodes, %d bodies, call %d of %d: %v %d, not %v %d", what, nodes, len(log), stamp, client, got, code, want, wantCode)
		}
	})
}

func askNoAnswer(t *testing.T, what string, nodes int, log []string, client, stamp, wantCode int) {
	t.Helper()
	askNodeAnswer(t, what, nodes, log, client, stamp, impl.Answer{}, wantCode)
}

func TestNodeAnswersKnown(t *testing.T) {
	for _, nodes := range nodeCounts {
		first := logBody(t, nodes, 5, request(10, 1, impl.LkAcquire, 9, "a"))
		wait := logBody(t, nodes, 8, request(11, 1, impl.LkAcquire, 20, "a"))
		query := logBody(t, nodes, 14, request(12, 7, impl.LkQuery, 0, "a"))
		release := logBody(t, nodes, 20, request(10, 2, impl.LkRelease, 0, "a"))
		granted, waits, held := told(impl.AnOK, 1, 10, 14), told(impl.AnWait, 1, 10, 14), told(impl.AnHeld, 2, 11, 34)
		log := []string{null, first, wait, null, query, release, null}
		askNodeAnswer(t, "granted", nodes, log, 10, 1, granted, impl.OK)
		askNodeAnswer(t, "waits", nodes, log, 11, 1, waits, impl.OK)
		askNodeAnswer(t, "the lease is over", nodes, log, 12, 7, held, impl.OK)
		askNodeAnswer(t, "let go too late", nodes, log, 10, 2, held, impl.OK)
		for at := range log {
			askNodeAnswer(t, "the first alone", nodes, append([]string{first}, log[:at]...), 10, 1, granted, impl.OK)
		}
		for _, call := range [][2]int{{10, 3}, {11, 2}, {12, 1}, {12, 6}, {12, 8}, {9, 1}, {13, 1}, {0, 0}, {0, 1}, {10, 0}, {1, 10}, {7, 12}} {
			askNoAnswer(t, "not there", nodes, log, call[0], call[1], impl.ErrNone)
		}
		askNoAnswer(t, "no log", nodes, nil, 10, 1, impl.ErrNone)
		askNoAnswer(t, "an empty log", nodes, []string{}, 10, 1, impl.ErrNone)
	}
}

// Null batches are nobody's call, not even one of noughts.
func TestNodeAnswersOfNoughts(t *testing.T) {
	for _, nodes := range nodeCounts {
		log := []string{null, logBody(t, nodes, 5, request(0, 1, impl.LkQuery, 0, "a")), null}
		askNoAnswer(t, "noughts", nodes, log, 0, 0, impl.ErrNone)
		askNoAnswer(t, "noughts alone", nodes, []string{null}, 0, 0, impl.ErrNone)
		askNodeAnswer(t, "client 0", nodes, log, 0, 1, told(impl.AnNone, 0, -1, 0), impl.OK)
		for _, n := range oddInts() {
			if n != 1 {
				askNoAnswer(t, "an odd stamp", nodes, log, 0, n, impl.ErrNone)
			}
			if n != 0 {
				askNoAnswer(t, "an odd client", nodes, log, n, 1, impl.ErrNone)
			}
			askNoAnswer(t, "both odd", nodes, log, n, n, impl.ErrNone)
		}
		for _, n := range []int{256, 65536, 1 << 32, math.MinInt} {
			askNoAnswer(t, "a call whose last bytes are one's", nodes, log, n, 1+n, impl.ErrNone)
		}
	}
}

// The first place counts, wherever the call stands again: told the same, old by then, or asking another thing.
func TestNodeAnswersOfTheFirstPlace(t *testing.T) {
	for _, nodes := range nodeCounts {
		mine := request(10, 2, impl.LkAcquire, 9, "a")
		first, again, much := logBody(t, nodes, 5, mine), logBody(t, nodes, 6, mine), logBody(t, nodes, 90, mine)
		next := logBody(t, nodes, 7, request(10, 3, impl.LkRelease, 0, "a"))
		other := logBody(t, nodes, 8, request(10, 2, impl.LkQuery, 0, "b"))
		granted := told(impl.AnOK, 1, 10, 14)
		for i, log := range [][]string{
			{first}, {first, first}, {first, again}, {first, much}, {null, first, null, much, null}, {first, next, again}, {first, next, much, much}, {first, other}, {first, next, other},
		} {
			askNodeAnswer(t, fmt.Sprint("log ", i), nodes, log, 10, 2, granted, impl.OK)
		}
		later := told(impl.AnOK, 1, 10, 99)
		askNodeAnswer(t, "a later one first", nodes, []string{much, first}, 10, 2, later, impl.OK)
		askNodeAnswer(t, "another thing first", nodes, []string{other, first}, 10, 2, told(impl.AnNone, 0, -1, 0), impl.OK)
		askNodeAnswer(t, "old at its first place", nodes, []string{next, first, again}, 10, 2, told(impl.AnOld, 0, -1, 0), impl.OK)
		askNodeAnswer(t, "what made it old", nodes, []string{next, first, again}, 10, 3, told(impl.AnNone, 0, -1, 0), impl.OK)
	}
}

func TestNodeAnswersOfFullTables(t *testing.T) {
	for _, nodes := range nodeCounts {
		var log []string
		for client := range 8 {
			log = append(log, logBody(t, nodes, client, request(client, 1, impl.LkAcquire, 100, "a")))
		}
		for client := range 8 {
			want := told(impl.AnWait, 1, 0, 100)
			switch {
			case client == 0:
				want.Kind = impl.AnOK
			case client == 5:
				want.Kind = impl.AnFull // four wait already
			case client > 5:
				want = told(impl.AnFull, 0, -1, 0) // six clients are known already
			}
			askNodeAnswer(t, "many clients", nodes, log, client, 1, want, impl.OK)
			askNodeAnswer(t, "many clients, again", nodes, append(log, log...), client, 1, want, impl.OK)
		}
	}
}

func TestNodeAnswersCodes(t *testing.T) {
	for _, nodes := range append(noNodes(), nodeCounts...) {
		_, known := ownFaults[nodes]
		for _, count := range []int{101, 102, 1000, impl.MaxList} {
			askNoAnswer(t, "too many", nodes, slices.Repeat([]string{null}, count), 10, 1, impl.ErrRange)
			askNoAnswer(t, "too many, not right", nodes, make([]string, count), 10, 1, impl.ErrRange)
		}
		for _, text := range []string{"", null, "x", longText()} {
			askNoAnswer(t, "too long", nodes, slices.Repeat([]string{text}, impl.MaxList+1), 10, 1, impl.ErrLong)
		}
		if !known {
			askNoAnswer(t, "no nodes", nodes, nil, 10, 1, impl.ErrRange)
			askNoAnswer(t, "no nodes", nodes, []string{"x"}, 10, 1, impl.ErrRange)
			askNoAnswer(t, "no nodes", nodes, []string{logBody(t, 4, 5, request(10, 1, impl.LkQuery, 0, "a"))}, 10, 1, impl.ErrRange)
			continue
		}
		hundred := slices.Repeat([]string{null}, 100)
		askNoAnswer(t, "100", nodes, hundred, 10, 1, impl.ErrNone)
		mine := logBody(t, nodes, 5, request(10, 1, impl.LkQuery, 0, "a"))
		for _, at := range []int{0, 1, 50, 99} {
			log := slices.Clone(hundred)
			log[at] = mine
			askNodeAnswer(t, fmt.Sprint("at ", at), nodes, log, 10, 1, told(impl.AnNone, 0, -1, 0), impl.OK)
			askNoAnswer(t, "and one more", nodes, append(log, mine), 10, 1, impl.ErrRange)
			for _, text := range append(wrongBodies(nodes), "", longText()) {
				for _, place := range []int{(at + 1) % 100, (at + 99) % 100} {
					bad := slices.Clone(log)
					bad[place] = text
					askNoAnswer(t, "a wrong body beside it", nodes, bad, 10, 1, impl.ErrBad)
					askNoAnswer(t, "a wrong body, no call", nodes, bad, 10, 2, impl.ErrBad)
				}
			}
			for other := range ownFaults {
				if other != nodes {
					askNoAnswer(t, "of other nodes", other, log, 10, 1, impl.ErrBad)
				}
			}
		}
	}
}

// drawLog draws requests of few clients with few stamps, so that many come again, with Null batches between.
func drawLog(d *drawn, nodes, count int) []string {
	var log []string
	now := 0
	for len(log) < count {
		now += d.below(9)
		switch d.below(8) {
		case 0:
			log = append(log, null)
		case 1:
			if len(log) > 0 {
				log = append(log, log[d.below(len(log))])
			}
		default:
			kind := []int{impl.LkAcquire, impl.LkAcquire, impl.LkRelease, impl.LkRenew, impl.LkQuery}[d.below(5)]
			r := request(10+d.below(8), 1+len(log)/8+d.below(3), kind, kind%2*(1+d.below(60)), []string{"a", "b", "c", "d", "e"}[d.below(5)])
			log = append(log, proposedBody(nodes, max(0, now-d.below(20)), r))
		}
	}
	return log
}

// Promise 19: what a log answers to a call it answers however it goes on.
func TestNodeAnswersStay(t *testing.T) {
	d := &drawn{seed: 6100}
	tally := map[string]int{}
	for run := range 12 {
		nodes := nodeCounts[run%3]
		log := drawLog(d, nodes, []int{8, 20, 40, 100}[run/3])
		said := map[[2]int]impl.Answer{}
		for size := 0; size <= len(log); size += 1 + d.below(max(1, len(log)/10)) {
			part := log[:size]
			for client := 9; client <= 18; client++ {
				for stamp := 1; stamp <= 16; stamp += 1 + d.below(4) {
					want, wantCode := ownNodeAnswer(part, client, stamp)
					got, code := impl.NodeAnswer(nodes, part, client, stamp)
					if got != want || code != wantCode {
						t.Fatalf("run %d, call %d of %d in %d bodies: %v %d, not %v %d", run, stamp, client, size, got, code, want, wantCode)
					}
					ahead, known := said[[2]int{client, stamp}]
					if known && (ahead != got || code != impl.OK) {
						t.Fatalf("run %d, call %d of %d in %d bodies: %v %d, and %v ahead", run, stamp, client, size, got, code, ahead)
					}
					if known {
						tally["stays"]++
					}
					if code == impl.OK {
						said[[2]int{client, stamp}] = got
						tally[fmt.Sprint(got.Kind)]++
					}
				}
			}
		}
	}
	for _, word := range []string{"stays", "1", "2", "3", "4", "5", "6", "7", "8"} {
		if tally[word] == 0 {
			t.Errorf("%s: never", word)
		}
	}
}

// However a log goes on: each call's answer stays behind every one of many next bodies.
func TestNodeAnswersStayBehindAnyBody(t *testing.T) {
	d := &drawn{seed: 6200}
	for _, nodes := range nodeCounts {
		log := drawLog(d, nodes, 12)
		asked, _ := ownAnswers(log)
		for range 12 {
			longer := append(slices.Clone(log), drawLog(d, nodes, 1+d.below(88))...)
			for _, r := range asked {
				if r.Kind == 0 {
					continue
				}
				want, _ := impl.NodeAnswer(nodes, log, r.Client, r.Stamp)
				askNodeAnswer(t, "goes on", nodes, longer, r.Client, r.Stamp, want, impl.OK)
			}
		}
	}
}
