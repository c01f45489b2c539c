package tests

import (
	"fmt"
	"strings"
	"testing"

	"loop.example/g00292/impl"
)

// talk is lines, each with what the console says to it, "" of those that say nothing.
type talk [][2]string

func (x talk) lines() []string {
	var list []string
	for _, row := range x {
		list = append(list, row[0])
	}
	return list
}

// said is what a console says to the first lines.
func (x talk) said(count int) string {
	text := ""
	for _, row := range x[:count] {
		if row[1] != "" {
			text += row[1] + "\n"
		}
	}
	return text
}

func askSaid(t *testing.T, what, text, want string) {
	t.Helper()
	if got, code := impl.Console(text); got != want || code != impl.OK {
		t.Errorf("Console, %s: %d\n%.3000s\nnot\n%.3000s\nto\n%.2000s", what, code, got, want, text)
	}
}

func askNotSaid(t *testing.T, what, text string, wantCode int) {
	t.Helper()
	if got, code := impl.Console(text); got != "" || code != wantCode {
		t.Errorf("Console, %s: %.80q %d, not %d", what, got, code, wantCode)
	}
}

// askTalk holds a talk, and each of its beginnings, with and without the last byte 10.
func askTalk(t *testing.T, what string, x talk) {
	t.Helper()
	for count := range len(x) + 1 {
		text := strings.Join(x.lines()[:count], "\n")
		askSaid(t, fmt.Sprint(what, ", ", count, " lines, ended"), text+"\n", x.said(count))
		if count == 0 || x[count-1][0] != "" {
			askSaid(t, fmt.Sprint(what, ", ", count, " lines"), text, x.said(count))
		}
	}
}

func TestConsoleOfNothing(t *testing.T) {
	for _, text := range []string{"", "\n", "\n\n\n", " ", " \n", "   \n\n  ", "#", "# a\n", "#\n#\n", " # query 0 a\n", strings.Repeat("\n", 60), strings.Repeat(" ", impl.MaxText), strings.Repeat(" \n", 60), "#" + strings.Repeat("a", impl.MaxText-1)} {
		askSaid(t, "nothing", text, "")
	}
}

// What stands behind the last byte 10 is a line if it has a byte, whatever it is.
func TestConsoleEnds(t *testing.T) {
	for _, row := range [][2]string{
		{"time 1", "ok\n"}, {"time 1\n", "ok\n"}, {"time 1\n\n", "ok\n"}, {"\ntime 1", "ok\n"}, {"time 1\n ", "ok\n"}, {"time 1\ntime 1", "ok\nok\n"}, {"time 1\ntime 1\n", "ok\nok\n"}, {"time 1\n\n\ntime 1", "ok\nok\n"},
		{"x", "error form\n"}, {"x\n", "error form\n"}, {"x\nx", "error form\nerror form\n"}, {"\x00", "error form\n"}, {"\x00\n\x00", "error form\nerror form\n"}, {"\r\n", "error form\n"}, {"time 1\r\n", "error form\n"}, {"\t", "error form\n"}, {"\ttime 1", "error form\n"},
		{"query 0 a", "none 0 -1 0\n"}, {"query 0 a\n", "none 0 -1 0\n"}, {"query 0\na", "error form\nerror form\n"}, {"query\n0 a\n", "error form\nerror form\n"},
	} {
		askSaid(t, "an end", row[0], row[1])
	}
}

// MaxLines count all lines, those that say nothing too.
func TestConsoleCountsLines(t *testing.T) {
	for _, line := range []string{"", " ", "#", "time 1", "x", "timeout 9", "query 9 a"} {
		said := map[string]string{"time 1": "ok\n", "x": "error form\n", "timeout 9": "error range\n", "query 9 a": "error range\n"}[line]
		for _, count := range []int{1, 59, 60} {
			askSaid(t, fmt.Sprint(count, " lines"), strings.Repeat(line+"\n", count), strings.Repeat(said, count))
			if line != "" {
				askSaid(t, fmt.Sprint(count, " lines, the last one without an end"), strings.TrimSuffix(strings.Repeat(line+"\n", count), "\n"), strings.Repeat(said, count))
			}
		}
		for _, count := range []int{61, 62, 600, 5000} {
			askNotSaid(t, fmt.Sprint(count, " lines of ", line), strings.Repeat(line+"\n", count), impl.ErrMany)
		}
		full := strings.Repeat(line+"\n", 60)
		for _, more := range []string{"\n", " ", "#", "x", "time 1", "time 1\n", "\x00", "\n\n"} {
			askNotSaid(t, "60 lines and one more", full+more, impl.ErrMany)
			askNotSaid(t, "one more and 60 lines", strings.TrimSuffix(more, "\n")+"\n"+full, impl.ErrMany)
		}
	}
	mixed := strings.Repeat("\n# a\n \ntime 1\n", 15)
	askSaid(t, "60 lines, some of which say something", mixed, strings.Repeat("ok\n", 15))
	askNotSaid(t, "one more", mixed+"#", impl.ErrMany)
}

func TestConsoleCountsBytes(t *testing.T) {
	askSaid(t, "a long line", "time 1\nx"+strings.Repeat(" ", impl.MaxText-8), "ok\nerror form\n")
	askSaid(t, "a long name", "query 0 "+strings.Repeat("a", impl.MaxText-8), "error form\n")
	askSaid(t, "a long number", "time "+strings.Repeat("1", impl.MaxText-6)+"\n", "error form\n")
	askSaid(t, "many words", strings.Repeat("a ", impl.MaxText/2), "error form\n")
	askNotSaid(t, "byte 10 alone", strings.Repeat("\n", impl.MaxText), impl.ErrMany)
	for _, text := range []string{"time 1", "", "#", "x\n", strings.Repeat("\n", 61), strings.Repeat("time 1\n", 60)} {
		for _, fill := range []string{"\n", " ", "#", "\x00"} {
			askNotSaid(t, "too long", text+strings.Repeat(fill, impl.MaxText+1-len(text)), impl.ErrLong)
			askNotSaid(t, "far too long", text+strings.Repeat(fill, 9*impl.MaxText), impl.ErrLong)
		}
	}
}

// The story of a lock: granted, waited for, renewed, run out, let go.
func TestConsoleStory(t *testing.T) {
	askTalk(t, "a lock", talk{
		{"# who holds the door?", ""},
		{"query 0 door", "none 0 -1 0"},
		{"acquire 0 door 10", "ok 1 10 11"},
		{"", ""},
		{"acquire 1 door 20", "waits 1 10 11"},
		{"time 5", "ok"},
		{"renew 0 door 10", "ok 1 10 16"},
		{"   ", ""},
		{"acquire 0 door 3", "twice 1 10 16"},
		{"time 15", "ok"},
		{"query 2 door", "held 2 11 36"},
		{"release 0 door", "held 2 11 36"},
		{"release 1 door", "ok 2 -1 0"},
		{"query 2 door", "error full"},
		{"query 2 door", "error again"},
	})
}

// Each kind of answer that a console can come by, of each operation.
func TestConsoleAnswers(t *testing.T) {
	askTalk(t, "no lock", talk{{"query 0 a", "none 0 -1 0"}, {"release 1 a", "none 0 -1 0"}, {"renew 2 a 5", "none 0 -1 0"}, {"query 0 a 0", "none 0 -1 0"}, {"release 0 a 0", "none 0 -1 0"}})
	askTalk(t, "a free lock", talk{{"acquire 0 a 9", "ok 1 10 10"}, {"release 0 a", "ok 1 -1 0"}, {"query 1 a", "free 1 -1 0"}, {"release 1 a", "free 1 -1 0"}, {"renew 1 a 1000", "free 1 -1 0"}, {"acquire 2 a 1000", "ok 2 12 1001"}})
	askTalk(t, "another one's lock", talk{{"acquire 2 a 1", "ok 1 12 2"}, {"query 0 a", "held 1 12 2"}, {"release 0 a", "held 1 12 2"}, {"renew 0 a 7", "held 1 12 2"}, {"query 2 a", "held 1 12 2"}, {"acquire 0 a 7", "waits 1 12 2"}, {"acquire 0 a 7", "twice 1 12 2"}, {"release 0 a", "ok 1 12 2"}})
	askTalk(t, "all locks", talk{{"acquire 0 a 9", "ok 1 10 10"}, {"acquire 0 b 8", "ok 2 10 9"}, {"acquire 1 c 7", "ok 3 11 8"}, {"acquire 2 d 6", "ok 4 12 7"}, {"acquire 2 e 5", "full 0 -1 0"}, {"query 2 e", "none 0 -1 0"}, {"acquire 1 d 5", "waits 4 12 7"}, {"release 2 d", "ok 5 11 6"}, {"query 0 e", "error full"}})
	askTalk(t, "those that wait, in their order", talk{{"acquire 1 a 9", "ok 1 11 10"}, {"acquire 2 a 20", "waits 1 11 10"}, {"acquire 0 a 30", "waits 1 11 10"}, {"release 1 a", "ok 2 12 21"}, {"acquire 1 a 4", "waits 2 12 21"}, {"release 2 a", "ok 3 10 31"}, {"release 0 a", "ok 4 11 5"}, {"release 1 a", "ok 4 -1 0"}})
}

// Faults of a call: names that are none, leases out of their bounds, clients that are none. They change nothing for the lines behind them.
func TestConsoleFaultyCalls(t *testing.T) {
	form, none := []string{}, []string{}
	for _, op := range operations() {
		lease := map[bool]string{true: " 9", false: ""}[op == "acquire" || op == "renew"]
		for _, name := range []string{"9", "a.b", "-", "a-b", "\u00e9", "\xff", "\x00", "a\t", "abcdefghijklm", strings.Repeat("x", 41), "#"} {
			form = append(form, op+" 0 "+name+lease)
		}
		for _, odd := range []string{"-1", "1001", "999999999999999999", "-999999999999999999", "0x1", "+1", "01", "1000000000000000000", "a", "1.0"} {
			form = append(form, op+" 0 a "+odd)
		}
		for _, client := range []string{"x", "00", "-0", "+1", "1000000000000000000", "a"} {
			form = append(form, op+" "+client+" a"+lease)
		}
		for _, client := range []string{"3", "4", "5", "6", "245", "246", "999", "1000", "1001", "999999999999999999", "-1", "-10", "-11", "-999999999999999999"} {
			none = append(none, op+" "+client+" a"+lease)
		}
		none = append(none, op+" 3 9"+lease, op+" 3 a 5000", op+" 3 a -1", op+" 3 \x00")
	}
	form = append(form, "acquire 0 a", "acquire 0 a 0", "renew 0 a", "renew 0 a 0", "release 0 a 1", "query 0 a 1")
	form = append(form, "acquire", "acquire 0", "acquire 0 a 9 9", "timeout", "timeout x", "timeout 0 0", "time", "time x", "time 1 1", "time 1000000000000000000", "go", "Query 0 a", "time1", "\x00")
	askFaults(t, form, "error form")
	askFaults(t, none, "error range")
	askFaults(t, []string{"timeout 4", "timeout 5", "timeout 1000", "timeout 1001", "timeout -1", "timeout 999999999999999999", "timeout -999999999999999999"}, "error range")
}

// askFaults holds what a console says to faulty lines, among which right ones stand that go on as if they stood alone.
func askFaults(t *testing.T, faults []string, want string) {
	t.Helper()
	right := talk{{"query 0 a", "none 0 -1 0"}, {"acquire 1 a 10", "ok 1 11 11"}, {"time 5", "ok"}, {"acquire 0 a 10", "waits 1 11 11"}, {"release 1 a", "ok 2 10 16"}}
	for len(faults) > 0 {
		some := faults[:min(len(faults), 50)]
		faults = faults[len(some):]
		var x talk
		for i, line := range some {
			if i%10 == 0 {
				x = append(x, right[i/10])
			}
			x = append(x, [2]string{line, want})
		}
		askSaid(t, want, strings.Join(x.lines(), "\n"), x.said(len(x)))
	}
}

// A call that is not sent, or not answered, leaves its client busy; others may still call.
func TestConsoleCallsThatStayOpen(t *testing.T) {
	askTalk(t, "no primary", talk{
		{"timeout 0", "view 1"}, // node 1, the primary of that view, has not given the one ahead up
		{"query 0 a", "error primary"}, {"query 0 a", "error again"}, {"query 1 a", "error primary"},
		{"timeout 1", "view 1"}, {"query 2 a", "error primary"}, {"query 2 a", "error again"},
		{"timeout 2", "view 1"}, {"query 0 a", "error again"}, {"acquire 1 b 3", "error again"}, {"query 2 a", "error again"},
	})
	askTalk(t, "two nodes alone", talk{
		{"timeout 2", "view 0"}, {"timeout 3", "view 0"},
		{"acquire 0 a 9", "no answer"}, {"query 0 a", "error again"}, {"query 0 9", "error again"},
		{"timeout 1", "view 1"}, {"query 1 a", "none 0 -1 0"}, {"query 0 a", "error again"},
	})
	askTalk(t, "one node alone is not missed", talk{{"timeout 3", "view 0"}, {"acquire 0 a 9", "ok 1 10 10"}, {"timeout 2", "view 0"}, {"release 0 a", "no answer"}, {"query 1 a", "no answer"}, {"query 2 a", "no answer"}, {"query 2 a", "error again"}})
	askTalk(t, "another one than the first two replies", talk{{"timeout 1", "view 0"}, {"acquire 0 a 9", "ok 1 10 10"}, {"query 1 a", "held 1 10 10"}, {"timeout 1", "view 0"}, {"release 0 a", "ok 1 -1 0"}})
	askTalk(t, "full logs", append(eightCalls(), talk{{"query 0 a", "error full"}, {"query 0 a", "error again"}, {"query 1 a", "error full"}, {"query 2 a", "error full"}, {"query 1 9", "error again"}, {"time 9", "ok"}, {"query 3 a", "error range"}}...))
}

// eightCalls fill all places of a log.
func eightCalls() talk {
	var x talk
	for i := range 8 {
		x = append(x, [2]string{fmt.Sprint("query ", i%3, " a"), "none 0 -1 0"})
	}
	return x
}

// Views: one node's giving up is nothing, three nodes' begins another view, in which the log goes on.
func TestConsoleViews(t *testing.T) {
	askTalk(t, "the next views", talk{
		{"acquire 0 a 50", "ok 1 10 51"},
		{"timeout 0", "view 1"}, {"timeout 1", "view 1"}, {"timeout 2", "view 1"},
		{"time 7", "ok"}, {"acquire 1 a 30", "waits 1 10 51"}, {"query 2 a", "held 1 10 51"},
		{"timeout 3", "view 1"}, {"timeout 2", "view 1"}, {"timeout 1", "view 2"}, // two nodes, then the third, and node 0 hears of the new view
		{"release 0 a", "ok 2 11 38"}, {"query 0 a", "held 2 11 38"},
		{"timeout 3", "view 2"}, {"timeout 0", "view 3"}, {"timeout 2", "view 3"},
		{"renew 1 a 1", "ok 2 11 9"}, {"query 2 a", "held 2 11 9"},
	})
	askTalk(t, "views ahead of any call", talk{{"timeout 1", "view 0"}, {"timeout 2", "view 0"}, {"timeout 3", "view 1"}, {"acquire 0 a 9", "ok 1 10 10"}, {"timeout 3", "view 1"}, {"release 0 a", "ok 1 -1 0"}})
	askTalk(t, "one node twice", talk{{"timeout 2", "view 0"}, {"timeout 2", "view 0"}, {"query 0 a", "none 0 -1 0"}, {"timeout 0", "view 1"}, {"timeout 0", "view 2"}, {"timeout 1", "view 2"}, {"timeout 1", "view 2"}, {"query 1 a", "none 0 -1 0"}})
}

// A node gives up views to the last one, and no further.
func TestConsoleLastView(t *testing.T) {
	var lone, first talk
	for view := 1; view <= 20; view++ {
		lone = append(lone, [2]string{"timeout 3", "view 0"})
		first = append(first, [2]string{"timeout 0", fmt.Sprint("view ", view)})
	}
	askTalk(t, "a node that is not asked", append(lone, talk{{"timeout 3", "error range"}, {"timeout 3", "error range"}, {"query 0 a", "none 0 -1 0"}, {"timeout 2", "view 0"}}...))
	askTalk(t, "the node that is asked", append(first, talk{{"timeout 0", "error range"}, {"query 0 a", "error primary"}, {"timeout 1", "view 20"}}...))
}

func TestConsoleTimes(t *testing.T) {
	askTalk(t, "a lease that is over", talk{{"acquire 0 a 10", "ok 1 10 11"}, {"time 9", "ok"}, {"query 1 a", "held 1 10 11"}, {"time 10", "ok"}, {"query 1 a", "free 1 -1 0"}, {"renew 0 a 9", "free 1 -1 0"}, {"acquire 0 a 9", "ok 2 10 20"}})
	askTalk(t, "a lease that is over while others wait", talk{{"acquire 0 a 10", "ok 1 10 11"}, {"acquire 1 a 5", "waits 1 10 11"}, {"acquire 2 a 40", "waits 1 10 11"}, {"time 30", "ok"}, {"query 0 a", "held 2 11 36"}, {"time 40", "ok"}, {"query 0 a", "held 3 12 81"}})
	askTalk(t, "time that would go back", talk{{"time 50", "ok"}, {"acquire 0 a 1", "ok 1 10 52"}, {"time 20", "ok"}, {"query 0 a", "held 1 10 52"}, {"time -5", "ok"}, {"time 0", "ok"}, {"query 0 a", "held 1 10 52"}, {"time 51", "ok"}, {"query 0 a", "free 1 -1 0"}})
	askTalk(t, "time ahead of nought", talk{{"time -1", "ok"}, {"time -999999999999999999", "ok"}, {"acquire 0 a 1", "ok 1 10 2"}})
	for _, n := range []string{"100000", "100001", "100002", "1000000", "1000001", "999999999999999999"} {
		askTalk(t, "the last time", talk{{"time " + n, "ok"}, {"acquire 0 a 1000", "ok 1 10 101001"}, {"time 99999", "ok"}, {"time 100000", "ok"}, {"time 200000", "ok"}, {"query 0 a", "held 1 10 101001"}})
	}
	askTalk(t, "the time ahead of the last one", talk{{"time 99999", "ok"}, {"acquire 0 a 1", "ok 1 10 100001"}, {"time 100000", "ok"}, {"query 0 a", "free 1 -1 0"}})
	askTalk(t, "no time", talk{{"time 1000000000000000000", "error form"}, {"time 07", "error form"}, {"time -0", "error form"}, {"time", "error form"}, {"time 5 5", "error form"}, {"acquire 0 a 1", "ok 1 10 2"}})
}

// Three clients on one lock, and on several.
func TestConsoleSeveralClients(t *testing.T) {
	askTalk(t, "one lock", talk{
		{"acquire 2 door 100", "ok 1 12 101"}, {"acquire 1 door 50", "waits 1 12 101"}, {"acquire 0 door 25", "waits 1 12 101"}, {"release 1 door", "ok 1 12 101"}, {"acquire 1 door 60", "waits 1 12 101"},
		{"time 10", "ok"}, {"release 2 door", "ok 2 10 36"}, {"renew 0 door 40", "ok 2 10 51"}, {"release 0 door", "ok 3 11 71"}, {"query 0 door", "error full"},
	})
	askTalk(t, "two locks", talk{
		{"acquire 0 a 100", "ok 1 10 101"}, {"acquire 1 b 100", "ok 2 11 101"}, {"acquire 0 b 100", "waits 2 11 101"}, {"acquire 1 a 100", "waits 1 10 101"},
		{"time 100", "ok"}, {"query 2 a", "held 3 11 201"}, {"query 2 b", "held 4 10 201"},
	})
}

// Blanks part words, wherever they stand; other bytes do not.
func TestConsoleBlanks(t *testing.T) {
	askTalk(t, "blanks", talk{{"  acquire   0 a   9", "ok 1 10 10"}, {" time  4   ", "ok"}, {"    timeout     3  ", "view 0"}, {"query 0 a ", "held 1 10 10"}, {"query\t0\ta", "error form"}, {"query 0 a\t", "error form"}, {"time\x004", "error form"}, {"\u00a0query 0 a", "error form"}, {"   #query 0 a", ""}})
}

// P17 by lines that stand behind: they never change what was said.
func TestConsoleKeepsWhatItSaid(t *testing.T) {
	first := "acquire 0 a 9\nacquire 1 a 9\nquery 2 b"
	said := "ok 1 10 10\nwaits 1 10 10\nnone 0 -1 0\n"
	askSaid(t, "alone", first, said)
	for _, row := range [][2]string{{"release 0 a", "ok 2 11 10\n"}, {"time 100", "ok\n"}, {"timeout 0", "view 1\n"}, {"x", "error form\n"}, {"# x", ""}, {"query 0 a 7", "error form\n"}, {"time 50\nquery 2 a", "ok\nheld 2 11 60\n"}} {
		askSaid(t, "with more", first+"\n"+row[0], said+row[1])
	}
}
