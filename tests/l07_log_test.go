package tests

import (
	"fmt"
	"slices"
	"testing"

	"loop.example/g00292/impl"
)

// logBody is a body of a request with readings of a quorum whose median is now.
func logBody(t *testing.T, nodes, now int, r impl.Request) string {
	t.Helper()
	values := []int{now, now - min(now, 3), now + min(topReading-now, 9), now, now}
	from := quorums(nodes)[(now+r.Stamp)%len(quorums(nodes))]
	b, code := impl.BatchBytes(impl.Batch{Request: r, Readings: readingsOf(from, values)})
	if code != impl.OK {
		t.Fatal("BatchBytes", r, code)
	}
	return string(b)
}

func askLog(t *testing.T, what string, nodes int, log []string, want impl.Table, answers []impl.Answer, wantCode int) {
	t.Helper()
	askKept(t, "LogTable", log, "behind", func(log []string) {
		table, got, code := impl.LogTable(nodes, log)
		if code != wantCode || !slices.Equal(got, answers) {
			t.Errorf("LogTable, %s, %d nodes, %d bodies: %.200v %d, not %.200v %d", what, nodes, len(log), got, code, answers, wantCode)
		}
		askSameTable(t, "LogTable, "+what, table, want)
	})
}

func askNoLog(t *testing.T, what string, nodes int, log []string, wantCode int) {
	t.Helper()
	askLog(t, what, nodes, log, impl.Table{}, nil, wantCode)
}

func TestLogTableKnown(t *testing.T) {
	for nodes := range ownFaults {
		first := logBody(t, nodes, 5, request(1, 1, impl.LkAcquire, 9, "a"))
		second := logBody(t, nodes, 8, request(2, 1, impl.LkAcquire, 20, "a"))
		askLog(t, "no log", nodes, nil, emptyTable(), nil, impl.OK)
		askLog(t, "an empty log", nodes, []string{}, emptyTable(), nil, impl.OK)
		askLog(t, "Null bodies", nodes, []string{null, null, null}, emptyTable(), make([]impl.Answer, 3), impl.OK)

		granted := told(impl.AnOK, 1, 1, 14)
		table := impl.Table{Time: 5, Next: 2, Locks: []impl.Lock{lock("a", 1, 1, 14)}, Seens: []impl.Seen{seen(1, 1, granted)}}
		askLog(t, "one body", nodes, []string{first}, table, []impl.Answer{granted}, impl.OK)
		askLog(t, "between Null ones", nodes, []string{null, first, null}, table, []impl.Answer{{}, granted, {}}, impl.OK)
		askLog(t, "a request that comes again", nodes, []string{first, first, null, first}, table, []impl.Answer{granted, granted, {}, granted}, impl.OK)

		again := logBody(t, nodes, 11, request(1, 1, impl.LkRelease, 0, "b"))
		table.Time = 11
		askLog(t, "a Stamp that comes again, later", nodes, []string{first, again}, table, []impl.Answer{granted, granted}, impl.OK)

		waits := told(impl.AnWait, 1, 1, 14)
		queue := impl.Table{Time: 8, Next: 2, Locks: []impl.Lock{lock("a", 1, 1, 14, waiter(2, 20))}, Seens: []impl.Seen{seen(1, 1, granted), seen(2, 1, waits)}}
		askLog(t, "one waits", nodes, []string{first, second}, queue, []impl.Answer{granted, waits}, impl.OK)

		over := logBody(t, nodes, 14, request(3, 7, impl.LkQuery, 0, "a"))
		later := told(impl.AnHeld, 2, 2, 34)
		passed := impl.Table{Time: 14, Next: 3, Locks: []impl.Lock{lock("a", 2, 2, 34)}, Seens: []impl.Seen{seen(1, 1, granted), seen(2, 1, waits), seen(3, 7, later)}}
		askLog(t, "a lease that is over", nodes, []string{first, second, null, over}, passed, []impl.Answer{granted, waits, {}, later}, impl.OK)
	}
}

// A time that would go back stays: what is asked then is asked at the table's Time.
func TestLogTableOfTimesThatGoBack(t *testing.T) {
	for nodes := range ownFaults {
		log := []string{
			logBody(t, nodes, 100, request(1, 1, impl.LkAcquire, 10, "a")),
			logBody(t, nodes, 0, request(2, 1, impl.LkAcquire, 7, "b")),
			logBody(t, nodes, 109, request(1, 2, impl.LkRenew, 1000, "a")),
			logBody(t, nodes, 50, request(2, 2, impl.LkQuery, 0, "b")),
			logBody(t, nodes, topReading, request(2, 3, impl.LkAcquire, 1000, "b")),
			logBody(t, nodes, 1, request(2, 4, impl.LkQuery, 0, "a")),
		}
		answers := []impl.Answer{told(impl.AnOK, 1, 1, 110), told(impl.AnOK, 2, 2, 107), told(impl.AnOK, 1, 1, 1109), told(impl.AnFree, 2, -1, 0), told(impl.AnOK, 3, 2, topReading+1000), told(impl.AnFree, 1, -1, 0)}
		locks := []impl.Lock{lock("a", 1, -1, 0), lock("b", 3, 2, topReading+1000)}
		seens := []impl.Seen{seen(1, 2, answers[2]), seen(2, 4, answers[5])}
		askLog(t, "times that go back", nodes, log, impl.Table{Time: topReading, Next: 4, Locks: locks, Seens: seens}, answers, impl.OK)
	}
}

// Drawn logs against locks of the tests' own, and against RunRequests.
func TestLogTableOfDrawnLogs(t *testing.T) {
	d := &drawn{seed: 4000}
	for run := range 90 {
		nodes := []int{1, 4, 7}[run%3]
		list, times := drawRun(d, []int{100, d.below(101), d.below(20)}[run/3%3])
		own := ownLocksOf(emptyTable())
		var log []string
		var answers []impl.Answer
		for i, r := range list {
			if d.below(5) == 0 {
				log, answers = append(log, null), append(answers, impl.Answer{})
				continue
			}
			log, answers = append(log, logBody(t, nodes, times[i], r)), append(answers, own.ask(times[i], r))
		}
		askLog(t, fmt.Sprint("drawn ", run), nodes, log, own.Table, answers, impl.OK)
		for other := range ownFaults {
			if other != nodes && own.Next > 1 {
				askNoLog(t, "of other nodes", other, log, impl.ErrBad)
			}
		}
	}
}

func TestLogTableCodes(t *testing.T) {
	for _, nodes := range append(noNodes(), 1, 4, 7) {
		_, known := ownFaults[nodes]
		ranged := func(code int) int {
			if known {
				return code
			}
			return impl.ErrRange
		}
		for _, count := range []int{101, 102, 1000, impl.MaxList} {
			askNoLog(t, "too many", nodes, slices.Repeat([]string{null}, count), impl.ErrRange)
			askNoLog(t, "too many, not right", nodes, make([]string, count), impl.ErrRange)
		}
		for _, text := range []string{"", null, "x", longText()} {
			askNoLog(t, "too long", nodes, slices.Repeat([]string{text}, impl.MaxList+1), impl.ErrLong)
		}
		askNoLog(t, "not right", nodes, []string{"x"}, ranged(impl.ErrBad))
		askNoLog(t, "a long text", nodes, []string{longText()}, ranged(impl.ErrBad))
		if !known {
			askNoLog(t, "no nodes", nodes, nil, impl.ErrRange)
			askNoLog(t, "no nodes", nodes, []string{null}, impl.ErrRange)
			askNoLog(t, "no nodes", nodes, []string{body(4, "a")}, impl.ErrRange)
			continue
		}
		hundred := slices.Repeat([]string{null}, 100)
		askLog(t, "100", nodes, hundred, emptyTable(), make([]impl.Answer, 100), impl.OK)
		for _, at := range []int{0, 1, 50, 99} {
			for _, text := range append(wrongBodies(nodes), "", longText()) {
				log := slices.Clone(hundred)
				log[at] = text
				askNoLog(t, fmt.Sprint("not right at ", at), nodes, log, impl.ErrBad)
			}
		}
	}
}

// Promise 1, of log tables: the answer is new each time.
func TestLogTablesAreNew(t *testing.T) {
	d := &drawn{seed: 4400}
	list, times := drawRun(d, 60)
	var log []string
	for i, r := range list {
		log = append(log, logBody(t, 4, times[i], r))
	}
	table, answers, _ := impl.LogTable(4, log)
	want, wantAnswers := copyTable(table), slices.Clone(answers)
	var waiters [][]impl.Waiter
	for _, l := range table.Locks {
		waiters = append(waiters, l.Waiters)
	}
	askApart(t, "LogTable", func(list int) impl.Waiter { return waiter(list, list) }, waiters...)
	ruinTable(table)
	clear(answers[:cap(answers)])
	askLog(t, "again", 4, log, want, wantAnswers, impl.OK)
	table, answers, _ = impl.LogTable(4, log)
	clear(log)
	askSameTable(t, "a log that is gone", table, want)
	if !slices.Equal(answers, wantAnswers) {
		t.Error("answers change with the log")
	}
}
