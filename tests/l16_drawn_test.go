package tests

import (
	"fmt"
	"slices"
	"strings"
	"testing"

	"loop.example/g00292/impl"
)

// ownConsole does what the document says of a console, on the tests' own world.
type ownConsole struct {
	*ownWorld
	now int
}

func newOwnConsole() *ownConsole { return &ownConsole{ownWorld: ownWorldOf(freshWorld(4))} }

// said is what the console says to a line, "" of one that says nothing.
func (x *ownConsole) said(line string) string {
	if len(ownWords(line)) == 0 {
		return ""
	}
	a, time, isTime, right := ownLine(line)
	switch {
	case !right:
		return "error form"
	case isTime:
		x.now = max(x.now, time)
		return "ok"
	}
	if code := x.do(a); code != impl.OK {
		return "error " + impl.CodeWord(code)
	}
	if a.Kind == impl.SvGroup {
		x.settle(1000)
		return fmt.Sprint("view ", x.group.all[0].view)
	}
	if code := x.do(svSend(a.Client, x.group.all[0].view%4, x.now)); code != impl.OK {
		return "error " + impl.CodeWord(code)
	}
	x.settle(1000)
	c := &x.clients[a.Client-10]
	for node := 0; node < 4 && c.Busy; node++ {
		x.do(svReply(c.Id, node))
	}
	if c.Busy {
		return "no answer"
	}
	told := c.Accepted[len(c.Accepted)-1]
	kind := map[int]string{1: "ok", 2: "waits", 3: "none", 4: "free", 5: "held", 6: "full", 7: "old", 8: "twice"}[told.Kind]
	return fmt.Sprint(kind, " ", told.Token, " ", told.Holder, " ", told.Expiry)
}

// ownTalk is what the tests' own console says to lines.
func ownTalk(lines []string) talk {
	c := newOwnConsole()
	var x talk
	for _, line := range lines {
		x = append(x, [2]string{line, c.said(line)})
	}
	return x
}

// drawTalk draws lines of some sort: calls that go well, nodes that give up, times, and now and then any line.
func drawTalk(d *drawn, count int) []string {
	odd, views, times := d.below(3), d.below(3), 1+d.below(6)
	names := [][]string{{"a"}, {"a", "b"}, {"a", "b", "c", "d", "e", "f"}}[d.below(3)]
	now := 0
	var lines []string
	for len(lines) < count {
		switch x := d.below(30); {
		case x < odd:
			line := strings.ReplaceAll(drawLine(d), "\n", "\t")
			lines = append(lines, line)
		case x < odd+views:
			lines = append(lines, fmt.Sprint("timeout ", d.below(4)))
		case x < odd+views+times:
			now += d.below(20)
			lines = append(lines, fmt.Sprint("time ", now-d.below(9)))
		case x < 20:
			op := operations()[[]int{0, 0, 0, 1, 2, 3}[d.below(6)]]
			line := fmt.Sprint(op, " ", d.below(3), " ", names[d.below(len(names))])
			if op == "acquire" || op == "renew" {
				line += fmt.Sprint(" ", 1+d.below(40))
			}
			lines = append(lines, line)
		case x < 22:
			lines = append(lines, []string{"", "  ", "# a", "timeout 9", "query 7 a"}[d.below(5)])
		}
	}
	return lines
}

// tallyTalk tallies what was said by its first words.
func tallyTalk(x talk, tally map[string]int) {
	for _, row := range x {
		words := strings.Fields(row[1])
		if len(words) > 0 {
			tally[strings.Join(words[:min(len(words), 2)], " ")]++
			tally[words[0]]++
		}
	}
}

// Drawn texts, held to the model.
func TestDrawnConsoles(t *testing.T) {
	tallies := make([]map[string]int, 12)
	t.Run("runs", func(t *testing.T) {
		for part := range tallies {
			tallies[part] = map[string]int{}
			t.Run(fmt.Sprint(part), func(t *testing.T) {
				t.Parallel()
				for run := range 25 {
					d := &drawn{seed: uint64(1630000 + 40*(25*part+run))}
					x := ownTalk(drawTalk(d, 1+d.below(60)))
					askSaid(t, fmt.Sprint("run ", part, " ", run), strings.Join(x.lines(), "\n")+"\n", x.said(len(x)))
					tallyTalk(x, tallies[part])
				}
			})
		}
	})
	total := addTallies(tallies)
	for _, word := range []string{
		"ok", "waits", "none", "free", "held", "full", "twice", "no answer", "view 0", "view 1", "view 2", "view 3",
		"error form", "error range", "error again", "error primary", "error full",
	} {
		if total[word] < 5 {
			t.Errorf("the consoles said %q but %d times", word, total[word])
		}
	}
}

// Promise 17: what a console says to the first of its lines is a beginning of what it says to all of them.
func TestFirstLinesDoNotHangOnLaterOnes(t *testing.T) {
	for run := range 14 {
		t.Run(fmt.Sprint(run), func(t *testing.T) {
			t.Parallel()
			d := &drawn{seed: uint64(1640000 + 60*run)}
			x := ownTalk(drawTalk(d, 60))
			all, code := impl.Console(strings.Join(x.lines(), "\n"))
			if code != impl.OK || all != x.said(60) {
				t.Fatalf("%d\n%s\nnot\n%s", code, all, x.said(60))
			}
			for count := range 61 {
				text := strings.Join(x.lines()[:count], "\n")
				for _, end := range []string{"\n", ""} {
					got, code := impl.Console(text + end)
					if code != impl.OK || got != x.said(count) || !strings.HasPrefix(all, got) {
						t.Errorf("the first %d lines: %d\n%s\nnot\n%s", count, code, got, x.said(count))
					}
				}
			}
			// Behind the same first lines other ones.
			for _, count := range []int{1, 9, 20, 40, 59} {
				more := append(slices.Clone(x.lines()[:count]), drawTalk(d, 60-count)...)
				got, code := impl.Console(strings.Join(more, "\n"))
				if code != impl.OK || !strings.HasPrefix(got, x.said(count)) {
					t.Errorf("%d lines and others: %d\n%s\nnot\n%s", count, code, got, x.said(count))
				}
			}
		})
	}
}

// Lines that say nothing change nothing, wherever they stand.
func TestLinesThatSayNothingChangeNothing(t *testing.T) {
	for run := range 30 {
		d := &drawn{seed: uint64(1650000 + 40*run)}
		lines := drawTalk(d, 10+d.below(30))
		x := ownTalk(lines)
		want := x.said(len(x))
		without := slices.DeleteFunc(slices.Clone(lines), func(line string) bool { return len(ownWords(line)) == 0 })
		askSaid(t, "without those that say nothing", strings.Join(without, "\n")+"\n", want)
		for len(lines) < 60 {
			nothing := []string{"", " ", "     ", "#", "# acquire 0 a 9", " #time 9", "#\x00", "##"}[d.below(8)]
			lines = slices.Insert(lines, d.below(len(lines)+1), nothing)
			if d.below(8) == 0 || len(lines) == 60 {
				askSaid(t, "with more that say nothing", strings.Join(lines, "\n")+"\n", want)
			}
		}
		askNotSaid(t, "one more", strings.Join(slices.Insert(lines, d.below(61), ""), "\n")+"\n", impl.ErrMany)
	}
}

// Any bytes at all are lines.
func TestConsolesOfAnyBytes(t *testing.T) {
	for run := range 300 {
		d := &drawn{seed: uint64(1660000 + 10*run)}
		b := []byte(strings.Join(drawTalk(d, 12), "\n") + "\n")
		for range 1 + d.below(20) {
			at := d.below(len(b))
			switch d.below(4) {
			case 0:
				b[at] = byte(d.below(256))
			case 1:
				b[at] = " \n#0a"[d.below(5)]
			case 2:
				b = slices.Delete(b, at, min(len(b), at+1+d.below(3)))
			case 3:
				b = slices.Insert(b, at, " \n#\x00"[d.below(4)])
			}
			if len(b) == 0 {
				b = []byte("x")
			}
		}
		lines := strings.Split(string(b), "\n")
		x := ownTalk(lines)
		askSaid(t, fmt.Sprint("any bytes ", run), string(b), x.said(len(x)))
	}
	for size := range 300 {
		text := string(noise(uint64(size), size))
		x := ownTalk(strings.Split(text, "\n"))
		askSaid(t, fmt.Sprint("noise ", size), text, x.said(len(x)))
	}
}
