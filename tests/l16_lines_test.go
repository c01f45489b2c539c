package tests

import (
	"fmt"
	"math"
	"regexp"
	"slices"
	"strconv"
	"strings"
	"testing"

	"loop.example/g00292/impl"
)

var ownNumber = regexp.MustCompile(`^(0|-?[1-9][0-9]{0,17})$`)

var ownOps = map[string]int{"acquire": impl.LkAcquire, "release": impl.LkRelease, "renew": impl.LkRenew, "query": impl.LkQuery}

func ownWords(line string) []string {
	words := slices.DeleteFunc(strings.Split(line, " "), func(word string) bool { return word == "" })
	if len(words) > 0 && strings.HasPrefix(words[0], "#") {
		return nil
	}
	return words
}

// ownLine tells the act of a line, as the document has it, or that it tells a time.
func ownLine(line string) (a impl.WorldAct, time int, isTime, right bool) {
	words := ownWords(line)
	number := func(at int) int {
		n, err := strconv.Atoi(words[at])
		right = right && err == nil && ownNumber.MatchString(words[at])
		return n
	}
	right = true
	switch {
	case len(words) == 2 && words[0] == "time":
		time = min(number(1), 100000)
		return impl.WorldAct{}, time, right, right
	case len(words) == 2 && words[0] == "timeout":
		a = svGroup(impl.GroupAct{Kind: impl.GrTimeout, Node: number(1)})
	case (len(words) == 3 || len(words) == 4) && ownOps[words[0]] > 0:
		a = svCall(10+min(number(1), 1000), ownOps[words[0]], 0, words[2])
		if len(words) == 4 {
			a.Lease = number(3)
		}
	default:
		right = false
	}
	if !right {
		return impl.WorldAct{}, 0, false, false
	}
	return a, 0, false, true
}

// askLine holds ReadLine to an answer, and the tests' own reader, too.
func askLine(t *testing.T, line string, want impl.WorldAct, wantCode int) {
	t.Helper()
	if a, code := impl.ReadLine(line); a != want || code != wantCode {
		t.Errorf("ReadLine(%.80q): %.200v %d, not %.200v %d", line, fmt.Sprint(a), code, fmt.Sprint(want), wantCode)
	}
	own, _, isTime, right := ownLine(line)
	if len(line) <= impl.MaxText && (own != want || (right && !isTime) != (wantCode == impl.OK)) {
		t.Errorf("%.80q: the tests disagree: %.200v %v", line, fmt.Sprint(own), right)
	}
}

func askNoLine(t *testing.T, line string) {
	t.Helper()
	askLine(t, line, impl.WorldAct{}, impl.ErrForm)
}

// operations are those that a line can ask for, in the order of their numbers.
func operations() []string { return []string{"acquire", "release", "renew", "query"} }

func TestConsoleConstants(t *testing.T) {
	if impl.MaxLines != 60 {
		t.Error(impl.MaxLines)
	}
}

func TestLinesOfOperations(t *testing.T) {
	for i, word := range operations() {
		op := i + 1
		askLine(t, word+" 0 a", svCall(10, op, 0, "a"), impl.OK)
		askLine(t, word+" 2 door 30", svCall(12, op, 30, "door"), impl.OK)
		askLine(t, word+" 1 a 0", svCall(11, op, 0, "a"), impl.OK)
		askLine(t, word+" 1 a -7", svCall(11, op, -7, "a"), impl.OK)
		for _, line := range []string{word, word + " 0", word + " a", word + " 0 a 9 9", word + " 0 a 9 #", word + " 0 a b", word + " a 0", word + " a 0 9", word + " 0 a 9 9 9", word + " 0 1 a", word + "0 a", word + " 0a", "0 " + word + " a"} {
			askNoLine(t, line)
		}
	}
}

// Which names and leases an operation takes is asked of the client alone.
func TestLinesLeaveNamesOpen(t *testing.T) {
	for _, name := range []string{"a", "_", "Z9", "9", "-9", "007", "a.b", "#", "#a", "\x00", "\n", "a\n", "\t", "a\tb", "\u00e9", "\xff", "acquire", "time", strings.Repeat("x", 12), strings.Repeat("x", 13), strings.Repeat("x", 41), strings.Repeat("x", 5000)} {
		for i, word := range operations() {
			askLine(t, word+" 1 "+name, svCall(11, i+1, 0, name), impl.OK)
			askLine(t, word+" 1 "+name+" 5", svCall(11, i+1, 5, name), impl.OK)
		}
	}
}

func TestLinesOfClients(t *testing.T) {
	for _, row := range []struct {
		number string
		client int
	}{
		{"0", 10}, {"1", 11}, {"2", 12}, {"3", 13}, {"5", 15}, {"6", 16}, {"245", 255}, {"246", 256}, {"990", 1000}, {"999", 1009}, {"1000", 1010}, {"1001", 1010}, {"1002", 1010}, {"5000", 1010},
		{"4294967296", 1010}, {"999999999999999999", 1010}, {"-1", 9}, {"-10", 0}, {"-11", -1}, {"-1000", -990}, {"-1001", -991}, {"-999999999999999999", -999999999999999989},
	} {
		for i, word := range operations() {
			askLine(t, word+" "+row.number+" a", svCall(row.client, i+1, 0, "a"), impl.OK)
			askLine(t, word+" "+row.number+" a 4", svCall(row.client, i+1, 4, "a"), impl.OK)
		}
	}
}

// A number is one at the places of numbers alone, and just by its text.
func TestLinesOfNumbers(t *testing.T) {
	right := 0
	for _, number := range numberTexts() {
		if number == "" {
			continue
		}
		n, err := strconv.Atoi(number)
		isOne := err == nil && ownNumber.MatchString(number)
		for _, row := range []struct {
			line string
			a    impl.WorldAct
		}{
			{"query " + number + " a", svCall(10+min(n, 1000), impl.LkQuery, 0, "a")},
			{"acquire " + number + " a 9", svCall(10+min(n, 1000), impl.LkAcquire, 9, "a")},
			{"renew 1 a " + number, svCall(11, impl.LkRenew, n, "a")},
			{"release 2 b " + number, svCall(12, impl.LkRelease, n, "b")},
			{"timeout " + number, svGroup(impl.GroupAct{Kind: impl.GrTimeout, Node: n})},
		} {
			if isOne {
				right++
				askLine(t, row.line, row.a, impl.OK)
			} else {
				askNoLine(t, row.line)
			}
		}
		askNoLine(t, "time "+number)
	}
	if right < 100 {
		t.Error(right)
	}
}

func TestLinesOfTimeouts(t *testing.T) {
	for _, node := range []int{0, 1, 2, 3, 4, 5, 6, 7, 1000, 1001, 5000, 999999999999999999, -1, -999999999999999999} {
		askLine(t, fmt.Sprint("timeout ", node), svGroup(impl.GroupAct{Kind: impl.GrTimeout, Node: node}), impl.OK)
		askLine(t, fmt.Sprint("  timeout   ", node, "  "), svGroup(impl.GroupAct{Kind: impl.GrTimeout, Node: node}), impl.OK)
		for _, behind := range []string{" 0", " a", " #", " \n"} {
			askNoLine(t, fmt.Sprint("timeout ", node, behind))
		}
	}
	for _, line := range []string{"timeout", "timeout ", "timeout a", "timeout #", "timeout0", "Timeout 0", "timeouts 0", "time out 0", "timeout -0", "timeout 00", fmt.Sprint("timeout ", math.MinInt), fmt.Sprint("timeout ", math.MaxInt)} {
		askNoLine(t, line)
	}
}

// A line that tells a time has no act, whether it is right or not.
func TestLinesOfTimes(t *testing.T) {
	for _, line := range []string{"time 0", "time 3", "time -3", "time 100000", "time 100001", " time  3 ", "time", "time a", "time 3 3", "time 03", "Time 3"} {
		askNoLine(t, line)
	}
}

func TestLinesThatSayNothing(t *testing.T) {
	for _, line := range []string{"", " ", "  ", strings.Repeat(" ", 1000), "#", "##", "# ", " #", "   # x", "#acquire 0 a", "# acquire 0 a 9", "#query", "#\x00", "#\n", "#time 3", " #timeout 0"} {
		askNoLine(t, line)
	}
	askLine(t, "query 0 # 0", svCall(10, impl.LkQuery, 0, "#"), impl.OK)
	for _, line := range []string{"query # a", "query 0 a #", "query #", "\t#", "\n# a", "a #"} {
		askNoLine(t, line)
	}
}

func TestLinesOfBlanks(t *testing.T) {
	want := svCall(11, impl.LkAcquire, 9, "a")
	for _, line := range []string{"acquire 1 a 9", " acquire  1 a 9 ", "acquire 1 a 9 ", "   acquire 1 a 9", "acquire    1  a     9", strings.Repeat(" ", 99) + "acquire" + strings.Repeat(" ", 99) + "1 a" + strings.Repeat(" ", 99) + "9" + strings.Repeat(" ", 99)} {
		askLine(t, line, want, impl.OK)
	}
	for _, line := range []string{"acquire1 a 9", "acquire 1a 9 9", "acquire 1a9", "ac quire 1 a 9", "acquire 1 a 9 9", "acquire1a9"} {
		askNoLine(t, line)
	}
}

// No other byte parts words: it belongs to one, which may be a name.
func TestLinesOfOtherBytes(t *testing.T) {
	for b := range 256 {
		sign := string([]byte{byte(b)})
		if sign == " " {
			continue
		}
		askNoLine(t, strings.Join([]string{"acquire", "1", "a", "9"}, sign))
		askNoLine(t, "query"+sign+" 0 a")
		askNoLine(t, "query"+sign+"0 a")
		askNoLine(t, sign+"query 0 a")
		askNoLine(t, sign+" query 0 a")
		askNoLine(t, "timeout 0 "+sign)
		if b < '1' || b > '9' {
			askNoLine(t, "timeout "+sign+"00")
		}
		askLine(t, "query 0 a"+sign, svCall(10, impl.LkQuery, 0, "a"+sign), impl.OK)
		askLine(t, "query 0 a"+sign+"b 9", svCall(10, impl.LkQuery, 9, "a"+sign+"b"), impl.OK)
		askLine(t, "query 0 "+sign, svCall(10, impl.LkQuery, 0, sign), impl.OK)
		if b < '0' || b > '9' {
			askNoLine(t, "query 0"+sign+" a")
			askNoLine(t, "query 0 a 9"+sign)
			askNoLine(t, "timeout 1"+sign)
		}
	}
	for _, space := range []string{"\t", "\n", "\v", "\f", "\r", "\x00", "\u0085", "\u00a0", "\u2003", "\u3000"} {
		askNoLine(t, "query"+space+"0 a")
		askLine(t, "query 0 a"+space+"b", svCall(10, impl.LkQuery, 0, "a"+space+"b"), impl.OK)
	}
}

func TestLinesOfOtherFirstWords(t *testing.T) {
	for _, word := range append(operations(), "timeout", "time") {
		for _, odd := range []string{strings.ToUpper(word), strings.ToUpper(word[:1]) + word[1:], word[:len(word)-1], word + "s", word + ":", "-" + word, "\"" + word + "\"", word + "\x00", "x" + word} {
			if odd == "time" {
				continue
			}
			askNoLine(t, odd+" 0")
			askNoLine(t, odd+" 0 a")
			askNoLine(t, odd+" 0 a 9")
		}
	}
	for _, word := range []string{"go", "0", "-", "call", "send", "give", "view", "ok", "error", "propose", "lock", "\u00e9", "\xff"} {
		askNoLine(t, word)
		askNoLine(t, word+" 0 a")
	}
}

func TestLinesOfEveryLength(t *testing.T) {
	name := strings.Repeat("a", impl.MaxText-len("query 0 "))
	askLine(t, "query 0 "+name, svCall(10, impl.LkQuery, 0, name), impl.OK)
	blanks := strings.Repeat(" ", impl.MaxText-len("query 0 a"))
	askLine(t, "query 0 a"+blanks, svCall(10, impl.LkQuery, 0, "a"), impl.OK)
	askLine(t, blanks+"query 0 a", svCall(10, impl.LkQuery, 0, "a"), impl.OK)
	askLine(t, "query "+blanks+"0 a", svCall(10, impl.LkQuery, 0, "a"), impl.OK)
	askLine(t, "query  "+blanks+"0 a", impl.WorldAct{}, impl.ErrLong)
	full := []string{strings.Repeat(" ", impl.MaxText), strings.Repeat("a ", impl.MaxText/2), "#" + strings.Repeat("a", impl.MaxText-1), strings.Repeat("\n", impl.MaxText), "timeout " + strings.Repeat("1", impl.MaxText-8)}
	for _, line := range full {
		askNoLine(t, line)
		askLine(t, line+" ", impl.WorldAct{}, impl.ErrLong)
		askLine(t, " "+line, impl.WorldAct{}, impl.ErrLong)
	}
	for _, line := range []string{"query 0 a", "timeout 0", "time 3", "#"} {
		askLine(t, line+strings.Repeat(" ", impl.MaxText+1-len(line)), impl.WorldAct{}, impl.ErrLong)
		askLine(t, line+strings.Repeat(" ", 9*impl.MaxText), impl.WorldAct{}, impl.ErrLong)
	}
}

// drawLine draws a line that mostly is right or nearly so.
func drawLine(d *drawn) string {
	pick := func(words ...string) string { return words[d.below(len(words))] }
	number := func() string {
		if d.below(12) == 0 {
			return numberTexts()[1+d.below(len(numberTexts())-1)]
		}
		return fmt.Sprint(d.below(4))
	}
	var words []string
	switch d.below(9) {
	case 0:
		words = []string{"timeout", number()}
	case 1:
		words = []string{"time", number()}
	case 2:
		words = []string{pick("#", "go", "Query", "#query", "a", "0"), number()}
	default:
		words = []string{pick(operations()...), number(), pick("a", "b", "door", "9", "a.b")}
		if d.below(2) == 0 {
			words = append(words, pick(number(), "9", "30", "1000", "1001"))
		}
	}
	switch d.below(12) {
	case 0:
		words = append(words, number())
	case 1:
		words = words[:d.below(len(words))]
	case 2:
		mix(d, words)
	case 3:
		words[d.below(len(words))] += pick("\t", "\n", "\x00", "#", " ", "-")
	}
	return pick("", "", "", " ", "  ") + strings.Join(words, pick(" ", " ", " ", "  ", "   ")) + pick("", "", "", " ", "  ")
}

func TestDrawnLines(t *testing.T) {
	tally := map[string]int{}
	for run := range 6000 {
		line := drawLine(&drawn{seed: uint64(160000 + run)})
		a, _, isTime, right := ownLine(line)
		if !right || isTime {
			askNoLine(t, line)
			tally[fmt.Sprint("none, time ", isTime)]++
			continue
		}
		askLine(t, line, a, impl.OK)
		tally[fmt.Sprint(a.Kind, " ", a.Op, " ", a.Lease != 0)]++
	}
	for _, word := range []string{"none, time true", "none, time false", "1 0 false", "2 1 true", "2 1 false", "2 2 true", "2 3 false", "2 4 true", "2 4 false"} {
		if tally[word] < 50 {
			t.Errorf("the lines were %q but %d times", word, tally[word])
		}
	}
}

// Every byte of some lines in the place of every other one.
func TestChangedLines(t *testing.T) {
	for _, line := range []string{"acquire 1 a 9", "release 0 b", "renew 2 door 1000", "query 0 a", "timeout 3", "time 50"} {
		for at := range len(line) {
			for b := range 256 {
				odd := line[:at] + string([]byte{byte(b)}) + line[at+1:]
				a, _, isTime, right := ownLine(odd)
				if !right || isTime {
					askNoLine(t, odd)
				} else {
					askLine(t, odd, a, impl.OK)
				}
			}
			cut := line[:at]
			if a, _, isTime, right := ownLine(cut); right && !isTime {
				askLine(t, cut, a, impl.OK)
			} else {
				askNoLine(t, cut)
			}
		}
	}
}
