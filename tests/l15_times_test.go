package tests

import (
	"fmt"
	"math"
	"slices"
	"testing"

	"loop.example/g00292/impl"
)

// ownTimes are the latest times so far of a log of right bodies.
func ownTimes(log []string) []int {
	times := make([]int, len(log))
	for at, text := range log {
		if at > 0 {
			times[at] = times[at-1]
		}
		if text != null {
			x, _ := impl.ReadBatch([]byte(text))
			times[at] = max(times[at], ownMedian(x.Readings))
		}
	}
	return times
}

func askTimes(t *testing.T, what string, nodes int, log []string, want []int, wantCode int) {
	t.Helper()
	askKept(t, "LogTimes", log, "behind", func(log []string) {
		got, code := impl.LogTimes(nodes, log)
		if !slices.Equal(got, want) || code != wantCode {
			t.Errorf("LogTimes, %s, %d nodes, %d bodies: %v %d, not %v %d", what, nodes, len(log), got, code, want, wantCode)
		}
	})
}

func askLogGrants(t *testing.T, what string, nodes int, log []string, want []impl.Grant, wantCode int) {
	t.Helper()
	askKept(t, "LogGrants", log, "behind", func(log []string) {
		got, code := impl.LogGrants(nodes, log)
		if !slices.Equal(got, want) || code != wantCode {
			t.Errorf("LogGrants, %s, %d nodes, %d bodies: %v %d, not %v %d", what, nodes, len(log), got, code, want, wantCode)
		}
	})
}

// askNotTold holds both, and LogTable beside them, to a code.
func askNotTold(t *testing.T, what string, nodes int, log []string, wantCode int) {
	t.Helper()
	askTimes(t, what, nodes, log, nil, wantCode)
	askLogGrants(t, what, nodes, log, nil, wantCode)
	askNoLog(t, what, nodes, log, wantCode)
}

func TestTimesAndGrantsCodes(t *testing.T) {
	for _, nodes := range append(noNodes(), nodeCounts...) {
		_, known := ownFaults[nodes]
		for _, count := range []int{101, 102, 1000, impl.MaxList} {
			askNotTold(t, "too many", nodes, slices.Repeat([]string{null}, count), impl.ErrRange)
			askNotTold(t, "too many, not right", nodes, make([]string, count), impl.ErrRange)
			askNotTold(t, "too many, too long", nodes, slices.Repeat([]string{longText()}, count), impl.ErrRange)
		}
		for _, text := range []string{"", null, "x", longText()} {
			askNotTold(t, "too long", nodes, slices.Repeat([]string{text}, impl.MaxList+1), impl.ErrLong)
		}
		if !known {
			askNotTold(t, "no nodes", nodes, nil, impl.ErrRange)
			askNotTold(t, "no nodes", nodes, []string{null}, impl.ErrRange)
			askNotTold(t, "no nodes, not right", nodes, []string{"x"}, impl.ErrRange)
			askNotTold(t, "no nodes, right for others", nodes, []string{body(4, "a")}, impl.ErrRange)
			continue
		}
		askTimes(t, "an empty log", nodes, nil, nil, impl.OK)
		askLogGrants(t, "an empty log", nodes, nil, nil, impl.OK)
		askTimes(t, "an empty log", nodes, []string{}, nil, impl.OK)
		askLogGrants(t, "an empty log", nodes, []string{}, nil, impl.OK)
		hundred := slices.Repeat([]string{null}, 100)
		askTimes(t, "100", nodes, hundred, make([]int, 100), impl.OK)
		askLogGrants(t, "100", nodes, hundred, nil, impl.OK)
		for _, at := range []int{0, 1, 50, 99} {
			for _, text := range append(wrongBodies(nodes), "", longText()) {
				log := slices.Clone(hundred)
				log[at], log[(at+1)%100] = text, logBody(t, nodes, 5, request(10, 1, impl.LkAcquire, 9, "a"))
				askNotTold(t, fmt.Sprint("not right at ", at), nodes, log, impl.ErrBad)
			}
		}
		askNotTold(t, "not right alone", nodes, []string{"x"}, impl.ErrBad)
		for other := range ownFaults {
			if other != nodes {
				askNotTold(t, "of other nodes", nodes, []string{null, logBody(t, other, 5, request(10, 1, impl.LkAcquire, 9, "a"))}, impl.ErrBad)
			}
		}
	}
}

func TestTimesKnown(t *testing.T) {
	for _, nodes := range nodeCounts {
		say := func(times ...int) []string {
			var log []string
			for i, now := range times {
				if now < 0 {
					log = append(log, null)
					continue
				}
				log = append(log, logBody(t, nodes, now, request(10, i+1, impl.LkQuery, 0, "a")))
			}
			return log
		}
		for _, row := range []struct{ told, want []int }{
			{[]int{7}, []int{7}}, {[]int{0}, []int{0}}, {[]int{topReading}, []int{topReading}}, {[]int{-1}, []int{0}}, {[]int{-1, -1, -1}, []int{0, 0, 0}},
			{[]int{1, 2, 3}, []int{1, 2, 3}}, {[]int{5, 5, 6}, []int{5, 5, 6}}, {[]int{9, 3, 5}, []int{9, 9, 9}}, {[]int{9, 0, 10, 9, 11}, []int{9, 9, 10, 10, 11}},
			{[]int{topReading, 0, 1, topReading}, []int{topReading, topReading, topReading, topReading}}, {[]int{0, topReading - 1, topReading}, []int{0, topReading - 1, topReading}},
			{[]int{-1, 4}, []int{0, 4}}, {[]int{-1, -1, 0, 4}, []int{0, 0, 0, 4}}, {[]int{4, -1}, []int{4, 4}}, {[]int{4, -1, -1, 6, -1, 2, -1, 7}, []int{4, 4, 4, 6, 6, 6, 6, 7}},
			{[]int{-1, 256, -1, 255, 257, -1, 65536, 65535, -1}, []int{0, 256, 256, 256, 257, 257, 65536, 65536, 65536}},
		} {
			askTimes(t, fmt.Sprint("told ", row.told), nodes, say(row.told...), row.want, impl.OK)
		}
	}
}

// What the requests are tells nothing of the times: they may come again, or be refused.
func TestTimesOfAnyRequests(t *testing.T) {
	for _, nodes := range nodeCounts {
		mine := request(10, 5, impl.LkAcquire, 9, "a")
		log := []string{logBody(t, nodes, 5, mine), logBody(t, nodes, 6, mine), logBody(t, nodes, 8, request(10, 1, impl.LkRelease, 0, "z")), logBody(t, nodes, 7, request(0, 1, impl.LkQuery, 0, "a"))}
		for client := range 9 {
			log = append(log, logBody(t, nodes, 9+client, request(20+client, 1, impl.LkAcquire, 1000, string(rune('a'+client)))))
		}
		askTimes(t, "any requests", nodes, log, []int{5, 6, 8, 8, 9, 10, 11, 12, 13, 14, 15, 16, 17}, impl.OK)
	}
}

// Promise 16: f of the readings may lie as they like: the time of each place lies between those of the others, or stands.
func TestTimesAmongLiars(t *testing.T) {
	d := &drawn{seed: 15300}
	for run := range 200 {
		nodes := nodeCounts[run%3]
		var log []string
		var least, most []int
		for at := range 20 {
			from := quorums(nodes)[d.below(len(quorums(nodes)))]
			first := d.below(5) // which of them lie
			var list []impl.Reading
			low, high := math.MaxInt, 0
			for i, node := range from {
				value := 100*at + d.below(90)
				if (i+first)%len(from) < ownFaults[nodes] {
					value = []int{0, topReading, 100*at - d.below(100*at+1), 100*at + d.below(10000)}[d.below(4)]
				} else {
					low, high = min(low, value), max(high, value)
				}
				list = append(list, reading(node, value))
			}
			b, _ := impl.BatchBytes(impl.Batch{Request: request(10, at+1, impl.LkQuery, 0, "a"), Readings: list})
			log, least, most = append(log, string(b)), append(least, low), append(most, high)
		}
		times, code := impl.LogTimes(nodes, log)
		for at, now := range times {
			if now < least[at] || now > most[at] {
				t.Fatalf("run %d, place %d: %d is not from %d to %d", run, at, now, least[at], most[at])
			}
		}
		if code != impl.OK || len(times) != len(log) || !slices.IsSorted(times) {
			t.Fatalf("run %d: %v %d", run, times, code)
		}
	}
}

// Promise 16, of drawn logs: times never go back, and are those of the table; what is told of a beginning stays.
func TestTimesOfDrawnLogs(t *testing.T) {
	d := &drawn{seed: 15400}
	for run := range 45 {
		nodes := nodeCounts[run%3]
		log := drawLog(d, nodes, []int{100, d.below(100), d.below(12)}[run/3%3])
		want := ownTimes(log)
		askTimes(t, fmt.Sprint("drawn ", run), nodes, log, want, impl.OK)
		if !slices.IsSorted(want) {
			t.Fatalf("run %d goes back: %v", run, want)
		}
		for size := 1; size <= len(log); size += 1 + d.below(9) {
			askTimes(t, fmt.Sprint("drawn ", run, ", the beginning"), nodes, log[:size], want[:size], impl.OK)
			if table, _, _ := impl.LogTable(nodes, log[:size]); table.Time != want[size-1] {
				t.Fatalf("run %d: the table's Time is %d, not %d", run, table.Time, want[size-1])
			}
		}
	}
}

// grantLog is a log of requests, each at its time; a time below 0 is a Null batch's.
func grantLog(t *testing.T, nodes int, times []int, list []impl.Request) []string {
	t.Helper()
	var log []string
	for at, r := range list {
		if times[at] < 0 {
			log = append(log, null)
			continue
		}
		log = append(log, logBody(t, nodes, times[at], r))
	}
	return log
}

func TestGrantsKnown(t *testing.T) {
	acquire := func(client, stamp, lease int, name string) impl.Request {
		return request(client, stamp, impl.LkAcquire, lease, name)
	}
	for _, nodes := range nodeCounts {
		ask := func(what string, times []int, list []impl.Request, want ...impl.Grant) {
			t.Helper()
			log := grantLog(t, nodes, times, list)
			askLogGrants(t, what, nodes, log, want, impl.OK)
			// Null batches change nothing, wherever they stand.
			for at := range len(log) + 1 {
				askLogGrants(t, what+", with Null batches", nodes, slices.Insert(slices.Clone(log), at, null, null), want, impl.OK)
			}
		}
		first, second := acquire(1, 1, 10, "b"), acquire(2, 1, 20, "b")
		ask("one", []int{5}, []impl.Request{first}, granted("b", 1, 1, 15))
		ask("no grants", []int{5, 6, 7}, []impl.Request{request(1, 1, impl.LkQuery, 0, "b"), request(2, 1, impl.LkRelease, 0, "b"), request(3, 1, impl.LkRenew, 5, "b")})
		ask("one waits", []int{5, 6}, []impl.Request{first, second}, granted("b", 1, 1, 15))
		ask("one waits until it is let go", []int{5, 6, 7}, []impl.Request{first, second, request(1, 2, impl.LkRelease, 0, "b")}, granted("b", 1, 1, 15), granted("b", 2, 2, 27))
		ask("one waits until the lease is over", []int{5, 6, 15}, []impl.Request{first, second, request(9, 1, impl.LkQuery, 0, "z")}, granted("b", 1, 1, 15), granted("b", 2, 2, 35))
		ask("the lease is nearly over", []int{5, 6, 14}, []impl.Request{first, second, request(9, 1, impl.LkQuery, 0, "z")}, granted("b", 1, 1, 15))
		ask("a renewed lease is no grant", []int{5, 6}, []impl.Request{first, request(1, 2, impl.LkRenew, 99, "b")}, granted("b", 1, 1, 15))
		ask("let go, and taken again", []int{5, 6, 7}, []impl.Request{first, request(1, 2, impl.LkRelease, 0, "b"), acquire(1, 3, 30, "b")}, granted("b", 1, 1, 15), granted("b", 1, 2, 37))
		ask("a request that comes again", []int{5, 9, 30}, []impl.Request{first, first, first}, granted("b", 1, 1, 15))
		ask("a request that comes again, of old", []int{5, 6, 30}, []impl.Request{first, request(1, 2, impl.LkRelease, 0, "b"), first}, granted("b", 1, 1, 15))
		ask("times that go back", []int{50, 0, 10}, []impl.Request{first, acquire(2, 1, 20, "a"), acquire(3, 1, 5, "c")}, granted("b", 1, 1, 60), granted("a", 2, 2, 70), granted("c", 3, 3, 55))
		ask("a time that goes back frees nothing", []int{50, 6, 59}, []impl.Request{first, second, request(3, 1, impl.LkQuery, 0, "b")}, granted("b", 1, 1, 60))
		ask("the last time that there is", []int{topReading, topReading}, []impl.Request{first, acquire(2, 1, 1000, "a")}, granted("b", 1, 1, topReading+10), granted("a", 2, 2, topReading+1000))
		ask("too many locks", []int{0, 0, 0, 0, 0}, []impl.Request{acquire(1, 1, 9, "a"), acquire(1, 2, 9, "b"), acquire(1, 3, 9, "c"), acquire(1, 4, 9, "d"), acquire(1, 5, 9, "e")},
			granted("a", 1, 1, 9), granted("b", 1, 2, 9), granted("c", 1, 3, 9), granted("d", 1, 4, 9))
	}
}

// One request may let several leases be over, make grants that it lets go again, and make one of its own: they stand by their tokens.
func TestGrantsOfOneRequestInALog(t *testing.T) {
	list := []impl.Request{
		request(1, 1, impl.LkAcquire, 10, "b"), request(2, 1, impl.LkAcquire, 20, "b"), request(3, 1, impl.LkAcquire, 30, "b"),
		request(1, 2, impl.LkAcquire, 10, "c"), request(2, 2, impl.LkAcquire, 40, "c"),
	}
	first := []impl.Grant{granted("b", 1, 1, 10), granted("c", 1, 2, 10)}
	for _, nodes := range nodeCounts {
		then := func(what string, now int, r impl.Request, want ...impl.Grant) {
			t.Helper()
			log := grantLog(t, nodes, []int{0, 0, 0, 0, 0, now}, append(slices.Clone(list), r))
			askLogGrants(t, what, nodes, log, slices.Concat(first, want), impl.OK)
			askLogGrants(t, what+", behind a Null batch", nodes, slices.Insert(log, 5, null), slices.Concat(first, want), impl.OK)
		}
		then("nothing is over", 9, request(4, 1, impl.LkQuery, 0, "b"))
		then("two are over", 10, request(4, 1, impl.LkQuery, 0, "b"), granted("b", 2, 3, 30), granted("c", 2, 4, 50))
		then("two are over, a third is made", 10, request(4, 1, impl.LkAcquire, 5, "a"), granted("b", 2, 3, 30), granted("c", 2, 4, 50), granted("a", 4, 5, 15))
		then("two are over, much later", 500, request(4, 1, impl.LkQuery, 0, "b"), granted("b", 2, 3, 520), granted("c", 2, 4, 540))
		then("one is let go", 9, request(1, 3, impl.LkRelease, 0, "c"), granted("c", 2, 3, 49))
		then("let go at once, to the next", 10, request(2, 3, impl.LkRelease, 0, "b"), granted("c", 2, 4, 50), granted("b", 3, 5, 40))
		then("let go at once, to nobody", 10, request(2, 3, impl.LkRelease, 0, "c"), granted("b", 2, 3, 30))
		then("renewed at once", 10, request(2, 3, impl.LkRenew, 500, "c"), granted("b", 2, 3, 30), granted("c", 2, 4, 510))
		then("told again", 10, list[4], granted("b", 2, 3, 30), granted("c", 2, 4, 50))
		then("too late", 10, list[3], granted("b", 2, 3, 30), granted("c", 2, 4, 50))
	}
}

// A hundred bodies, each of which makes a grant.
func TestGrantsOfFullLogs(t *testing.T) {
	for _, nodes := range nodeCounts {
		var log []string
		var want []impl.Grant
		for i := range 100 {
			name := []string{"a", "b", "c", "d"}[i%4]
			log = append(log, logBody(t, nodes, 10*i, request(i%6, 1+i, impl.LkAcquire, 1, name)))
			want = append(want, granted(name, i%6, i+1, 10*i+1))
		}
		askLogGrants(t, "full", nodes, log, want, impl.OK)
		askNotTold(t, "one more", nodes, append(log, null), impl.ErrRange)
	}
}

// ownLogGrants are made by locks of the tests' own.
func ownLogGrants(log []string) []impl.Grant {
	own := ownLocksOf(emptyTable())
	var grants []impl.Grant
	for _, text := range log {
		if text != null {
			x, _ := impl.ReadBatch([]byte(text))
			own.ask(ownMedian(x.Readings), x.Request)
			grants = append(grants, own.standing()...)
		}
	}
	return grants
}

// askRising holds that grants rise by their tokens, and no two have one; that each can be certified by its text.
func askRising(t *testing.T, what string, grants []impl.Grant) {
	t.Helper()
	for i, g := range grants {
		if !impl.GrantOK(g) || i > 0 && grants[i-1].Token >= g.Token {
			t.Fatalf("%s: grant %d of %v", what, i, grants)
		}
		if i > 0 {
			if later, code := impl.LaterGrant(grants[i-1], g); later != 1 || code != impl.OK {
				t.Fatalf("%s: grant %d of %v is not the later one: %d %d", what, i, grants, later, code)
			}
		}
	}
}

// Promise 16, of drawn logs: grants rise by their tokens, and a log that goes on keeps those of its beginning.
func TestGrantsOfDrawnLogs(t *testing.T) {
	d := &drawn{seed: 15500}
	made, most := 0, 0
	for run := range 60 {
		nodes := nodeCounts[run%3]
		var log []string
		if run%2 == 0 {
			log = drawLog(d, nodes, []int{100, d.below(100), d.below(12)}[run/6%3])
		} else {
			list, times := drawRun(d, 1+d.below(100))
			for range d.below(20) {
				times[d.below(len(times))] = -1
			}
			log = grantLog(t, nodes, times, list)
		}
		want := ownLogGrants(log)
		askLogGrants(t, fmt.Sprint("drawn ", run), nodes, log, want, impl.OK)
		askRising(t, fmt.Sprint("drawn ", run), want)
		made += len(want)
		ahead := 0
		for size := range len(log) + 1 {
			if size < len(log) && d.below(4) > 0 {
				continue
			}
			part, code := impl.LogGrants(nodes, log[:size])
			if code != impl.OK || len(part) < ahead || len(part) > len(want) || !slices.Equal(part, want[:len(part)]) {
				t.Fatalf("run %d, %d bodies: %v %d, not the beginning of %v", run, size, part, code, want)
			}
			most, ahead = max(most, len(part)-ahead), len(part)
		}
	}
	if made < 500 || most < 2 {
		t.Errorf("%d grants, at most %d at once", made, most)
	}
}
