package tests

import (
	"fmt"
	"math"
	"slices"
	"strings"
	"testing"

	"loop.example/g00292/impl"
)

// ownPlace looks a log through from its end.
func ownPlace(log []string, client, stamp int) (int, int) {
	switch {
	case len(log) > 4096:
		return 0, impl.ErrLong
	case len(log) > 100:
		return 0, impl.ErrRange
	}
	place, code := 0, impl.ErrNone
	for at, text := range slices.Backward(log) {
		x, read := impl.ReadBatch([]byte(text))
		switch {
		case len(text) > 20000:
			return 0, impl.ErrBad
		case read == impl.OK && x.Request.Kind != 0 && x.Request.Client == client && x.Request.Stamp == stamp:
			place, code = at, impl.OK
		}
	}
	return place, code
}

func askPlace(t *testing.T, what string, log []string, client, stamp, want, wantCode int) {
	t.Helper()
	askKept(t, "PlaceOf", log, "behind", func(log []string) {
		got, code := impl.PlaceOf(log, client, stamp)
		askNumber(t, fmt.Sprint("PlaceOf, ", what, ", ", len(log), " bodies, call ", stamp, " of ", client), got, code, want, wantCode)
	})
}

func askNoPlace(t *testing.T, what string, log []string, client, stamp, wantCode int) {
	t.Helper()
	askPlace(t, what, log, client, stamp, 0, wantCode)
}

func TestPlacesKnown(t *testing.T) {
	for _, nodes := range nodeCounts {
		first := logBody(t, nodes, 5, request(10, 1, impl.LkAcquire, 9, "a"))
		wait := logBody(t, nodes, 8, request(11, 1, impl.LkAcquire, 20, "a"))
		query := logBody(t, nodes, 14, request(12, 7, impl.LkQuery, 0, "a"))
		release := logBody(t, nodes, 20, request(10, 2, impl.LkRelease, 0, "a"))
		log := []string{null, first, wait, null, query, release, null, first, release}
		for _, row := range [][3]int{{10, 1, 1}, {11, 1, 2}, {12, 7, 4}, {10, 2, 5}} {
			askPlace(t, "known", log, row[0], row[1], row[2], impl.OK)
		}
		for _, call := range [][2]int{{10, 3}, {10, 0}, {11, 2}, {12, 1}, {12, 6}, {12, 8}, {9, 1}, {13, 1}, {0, 0}, {0, 1}, {1, 10}, {7, 12}, {1, 1}} {
			askNoPlace(t, "not there", log, call[0], call[1], impl.ErrNone)
		}
		askNoPlace(t, "no log", nil, 10, 1, impl.ErrNone)
		askNoPlace(t, "an empty log", []string{}, 10, 1, impl.ErrNone)
		askNoPlace(t, "an empty log", []string{}, 0, 0, impl.ErrNone)
	}
}

// The first place counts, whatever the call asks there, and however often it comes again.
func TestFirstPlaces(t *testing.T) {
	for _, nodes := range nodeCounts {
		mine := logBody(t, nodes, 5, request(10, 2, impl.LkAcquire, 9, "a"))
		later := logBody(t, nodes, 95, request(10, 2, impl.LkAcquire, 9, "a"))
		other := logBody(t, nodes, 8, request(10, 2, impl.LkQuery, 0, "b"))
		early, late := logBody(t, nodes, 1, request(10, 1, impl.LkQuery, 0, "a")), logBody(t, nodes, 9, request(10, 3, impl.LkQuery, 0, "a"))
		for i, row := range []struct {
			log  []string
			want int
		}{
			{[]string{mine}, 0}, {[]string{mine, mine}, 0}, {[]string{mine, other}, 0}, {[]string{other, mine}, 0}, {[]string{later, mine}, 0}, {[]string{mine, later, other}, 0},
			{[]string{early, mine}, 1}, {[]string{early, mine, mine}, 1}, {[]string{late, mine}, 1}, {[]string{late, early, mine, other}, 2}, {[]string{early, early, early, other, mine}, 3},
			{[]string{null, mine}, 1}, {[]string{null, null, null, mine, null, mine}, 3}, {[]string{null, early, null, other, null}, 3},
		} {
			askPlace(t, fmt.Sprint("log ", i), row.log, 10, 2, row.want, impl.OK)
		}
		for place := range 100 {
			log := slices.Repeat([]string{null}, 100)
			log[place] = mine
			askPlace(t, "among Null ones", log, 10, 2, place, impl.OK)
			for _, again := range []int{place + 1, 99} {
				if again > place && again < 100 {
					log[again] = later
				}
			}
			askPlace(t, "among Null ones, again", log, 10, 2, place, impl.OK)
			askNoPlace(t, "another Stamp", log, 10, 1, impl.ErrNone)
		}
	}
}

// Null batches are nobody's call, not even one of noughts.
func TestPlacesOfNoughts(t *testing.T) {
	nobody := logBody(t, 4, 5, request(0, 1, impl.LkQuery, 0, "a"))
	log := []string{null, nobody, null}
	askNoPlace(t, "noughts", log, 0, 0, impl.ErrNone)
	askNoPlace(t, "noughts alone", []string{null}, 0, 0, impl.ErrNone)
	askNoPlace(t, "noughts alone, often", slices.Repeat([]string{null}, 100), 0, 0, impl.ErrNone)
	askPlace(t, "client 0", log, 0, 1, 1, impl.OK)
	for _, n := range oddInts() {
		if n != 1 {
			askNoPlace(t, "an odd stamp", log, 0, n, impl.ErrNone)
		}
		if n != 0 {
			askNoPlace(t, "an odd client", log, n, 1, impl.ErrNone)
		}
		askNoPlace(t, "both odd", log, n, n, impl.ErrNone)
	}
	for _, n := range []int{256, 65536, 1 << 32, math.MinInt} {
		askNoPlace(t, "a call whose last bytes are one's", log, n, 1, impl.ErrNone)
		askNoPlace(t, "a call whose last bytes are one's", log, 0, 1+n, impl.ErrNone)
	}
	most := logBody(t, 4, 5, request(255, 65535, impl.LkQuery, 0, "a"))
	askPlace(t, "the last call that there is", []string{null, most}, 255, 65535, 1, impl.OK)
	askNoPlace(t, "as bytes with a sign", []string{null, most}, -1, -1, impl.ErrNone)
}

// noBatches are bodies that are no batches, some of them nearly one of that call.
func noBatches(call string) []string {
	list := []string{"", "x", "\x01", "\x02", "\x00\x00", null + call, call + null, call[1:], call[:len(call)-1], call + call, call + "a", "\x05" + call[1:], "\x03" + call[1:], "\xff" + call[1:],
		strings.Repeat(null, 2), strings.Repeat("\xff", 77), strings.Repeat(call, 100), strings.Repeat(null, impl.MaxBody), strings.Repeat("\xff", impl.MaxBody)}
	r := rightRequest(1)
	for _, wrong := range []impl.Request{{}, {Client: 10, Stamp: 1}, request(10, 1, 9, 0, "a"), request(10, 1, impl.LkQuery, 1, "a"), request(10, 1, impl.LkAcquire, 0, "a"), request(10, 1, impl.LkQuery, 0, "9"), request(10, 1, impl.LkQuery, 0, strings.Repeat("a", 13)), request(10, 0, r.Kind, r.Lease, "a")} {
		list = append(list, proposedBody(4, 5, wrong))
	}
	return list
}

func TestPlacesAmongNoBatches(t *testing.T) {
	mine := proposedBody(4, 5, request(10, 1, impl.LkAcquire, 30, "door"))
	bad := noBatches(mine)
	for i, text := range bad {
		if _, code := impl.ReadBatch([]byte(text)); code == impl.OK {
			t.Fatalf("%d is a batch: %q", i, text)
		}
		what := fmt.Sprintf("body %d, %.20q", i, text)
		askNoPlace(t, what+" alone", []string{text}, 10, 1, impl.ErrNone)
		askNoPlace(t, what+" alone, of noughts", []string{text}, 0, 0, impl.ErrNone)
		askNoPlace(t, what+" alone, of Stamp 0", []string{text}, 10, 0, impl.ErrNone)
		askPlace(t, what+" ahead", []string{text, mine}, 10, 1, 1, impl.OK)
		askPlace(t, what+" behind", []string{mine, text}, 10, 1, 0, impl.OK)
		askPlace(t, what+" around", []string{text, null, text, mine, text, mine}, 10, 1, 3, impl.OK)
	}
	askPlace(t, "all of them ahead", append(slices.Clone(bad), mine), 10, 1, len(bad), impl.OK)
}

// A batch is a batch though no nodes there are would say that it is right: no call of PlaceOf tells how many there are.
func TestPlacesOfBatchesThatAreNotRight(t *testing.T) {
	r := request(10, 1, impl.LkAcquire, 30, "door")
	for i, list := range [][]impl.Reading{
		nil, {reading(6, 5)}, {reading(0, 5), reading(6, 7)}, readingsOf([]int{0, 1, 2, 3, 4, 5, 6}, []int{5}), {{From: 3, Value: 9, Mac: "wrong mk"}}, {{From: 0, Value: topReading, Mac: strings.Repeat(null, 8)}},
	} {
		b, code := impl.BatchBytes(impl.Batch{Request: r, Readings: list})
		if code != impl.OK || impl.BodyOK(4, string(b)) || impl.BodyOK(7, string(b)) {
			t.Fatal(i, code)
		}
		askPlace(t, fmt.Sprint("readings ", i), []string{null, string(b), proposedBody(4, 5, r)}, 10, 1, 1, impl.OK)
		askNoPlace(t, fmt.Sprint("readings ", i), []string{null, string(b)}, 10, 2, impl.ErrNone)
	}
	for _, nodes := range nodeCounts {
		askPlace(t, "of several nodes", []string{proposedBody(nodes, 5, request(11, 1, impl.LkQuery, 0, "a")), proposedBody(nodes, 5, r), proposedBody(4, 5, r)}, 10, 1, 1, impl.OK)
	}
}

// Of codes that would fit: too long a list, then too many bodies, then a body that is too long, then no place.
func TestPlacesCodes(t *testing.T) {
	mine := proposedBody(4, 5, request(10, 1, impl.LkAcquire, 30, "door"))
	full, over := strings.Repeat("a", impl.MaxBody), strings.Repeat("a", impl.MaxBody+1)
	for _, count := range []int{1, 2, 99, 100, 101, 102, 1000, 4095, 4096, 4097, 5000} {
		ok, none, bad := impl.OK, impl.ErrNone, impl.ErrBad
		switch {
		case count > 4096:
			ok, none, bad = impl.ErrLong, impl.ErrLong, impl.ErrLong
		case count > 100:
			ok, none, bad = impl.ErrRange, impl.ErrRange, impl.ErrRange
		}
		for _, place := range []int{0, count / 2, count - 1} {
			log := slices.Repeat([]string{null}, count)
			askNoPlace(t, "not there", log, 10, 1, none)
			log[place] = mine
			if ok == impl.OK {
				askPlace(t, fmt.Sprint("at ", place), log, 10, 1, place, ok)
			} else {
				askNoPlace(t, fmt.Sprint("at ", place), log, 10, 1, ok)
			}
			for _, long := range []string{over, longText(), strings.Repeat(mine, 1000)} {
				for _, at := range []int{0, count / 3, count - 1} {
					odd := slices.Clone(log)
					odd[at] = long
					askNoPlace(t, fmt.Sprint("a long body at ", at, ", the call at ", place), odd, 10, 1, bad)
					askNoPlace(t, fmt.Sprint("a long body at ", at, ", no call"), odd, 10, 2, bad)
				}
			}
		}
	}
	for at := range 100 {
		log := slices.Repeat([]string{null}, 100)
		log[50] = mine
		if at != 50 {
			log[at] = full
			askPlace(t, fmt.Sprint("MaxBody bytes at ", at), log, 10, 1, 50, impl.OK)
		}
		log[at] = over
		askNoPlace(t, fmt.Sprint("one more at ", at), log, 10, 1, impl.ErrBad)
	}
	for _, text := range []string{"", null, "x", over} {
		askNoPlace(t, "too long a list", slices.Repeat([]string{text}, impl.MaxList+1), 10, 1, impl.ErrLong)
		askNoPlace(t, "101 bodies", slices.Repeat([]string{text}, 101), 10, 1, impl.ErrRange)
	}
	askNoPlace(t, "100 long bodies", slices.Repeat([]string{over}, 100), 10, 1, impl.ErrBad)
}

// Drawn logs of few calls, with bodies between that are no batches.
func TestPlacesInDrawnLogs(t *testing.T) {
	d := &drawn{seed: 15100}
	tally := map[string]int{}
	bad := noBatches(proposedBody(4, 5, request(11, 2, impl.LkAcquire, 30, "a")))
	for run := range 40 {
		log := drawLog(d, nodeCounts[run%3], d.below(60))
		for range d.below(30) {
			log = slices.Insert(log, d.below(len(log)+1), bad[d.below(len(bad))])
		}
		if d.below(9) == 0 && len(log) > 0 {
			log[d.below(len(log))] = strings.Repeat("a", impl.MaxBody+1)
		}
		for client := 9; client <= 18; client++ {
			for stamp := 0; stamp <= 10; stamp++ {
				want, wantCode := ownPlace(log, client, stamp)
				askPlace(t, fmt.Sprint("drawn ", run), log, client, stamp, want, wantCode)
				tally[impl.CodeWord(wantCode)]++
			}
		}
	}
	for _, word := range []string{"ok", "none", "bad"} {
		if tally[word] < 100 {
			t.Errorf("%s: %d times", word, tally[word])
		}
	}
}

// A place stays, however a log goes on, and is the one at which the log answers.
func TestPlacesStay(t *testing.T) {
	d := &drawn{seed: 15200}
	for run := range 12 {
		nodes := nodeCounts[run%3]
		log := drawLog(d, nodes, 5+d.below(30))
		longer := append(slices.Clone(log), drawLog(d, nodes, 60)...)
		asked, answers := ownAnswers(log)
		for at, r := range asked {
			if r.Kind == 0 {
				continue
			}
			place, code := impl.PlaceOf(log, r.Client, r.Stamp)
			if code != impl.OK || place > at || asked[place].Client != r.Client || asked[place].Stamp != r.Stamp {
				t.Fatalf("run %d: call %d of %d at %d: %d %d", run, r.Stamp, r.Client, at, place, code)
			}
			askPlace(t, "goes on", longer, r.Client, r.Stamp, place, impl.OK)
			askNodeAnswer(t, "at its place", nodes, longer, r.Client, r.Stamp, answers[place], impl.OK)
		}
	}
}
