package tests

import (
	"fmt"
	"slices"
	"testing"

	"loop.example/g00292/impl"
)

// logGroup is a group of nodes with these logs; the letters of each are bodies.
func logGroup(faulty []int, logs ...string) impl.Group {
	g := freshGroup(len(logs), faulty...)
	for id, letters := range logs {
		for _, letter := range letters {
			g.Replicas[id].Log = append(g.Replicas[id].Log, logLetter(len(logs), letter))
		}
	}
	return g
}

func logLetter(nodes int, letter rune) string {
	if letter == '0' {
		return null
	}
	return body(nodes, string(letter))
}

// askLogs holds LongestLog and LogsAgree to what a group's logs are.
func askLogs(t *testing.T, what string, g impl.Group, longest []string, agree bool) {
	t.Helper()
	ahead := copyGroup(g)
	log, code := impl.LongestLog(g)
	if code != impl.OK || !slices.Equal(log, longest) {
		t.Errorf("LongestLog, %s: %q %d, not %q", what, log, code, longest)
	}
	if got, code := impl.LogsAgree(g); got != agree || code != impl.OK {
		t.Errorf("LogsAgree, %s: %v %d", what, got, code)
	}
	askSameGroup(t, what+", its argument", g, ahead)
}

func TestLogsKnown(t *testing.T) {
	known := []struct {
		faulty  []int
		logs    []string
		longest string
		agree   bool
	}{
		{nil, []string{""}, "", true},
		{nil, []string{"ab"}, "ab", true},
		{nil, []string{"", "", "", ""}, "", true},
		{nil, []string{"a", "ab", "", "abc"}, "abc", true},
		{nil, []string{"abc", "abc", "abc", "abc"}, "abc", true},
		{nil, []string{"", "a", "b", ""}, "a", false},
		{nil, []string{"", "b", "a", ""}, "b", false},
		{nil, []string{"b", "ac", "ac", "a"}, "ac", false},
		{nil, []string{"ab", "ac", "ad", "a"}, "ab", false},
		{nil, []string{"a", "b", "bc", "b"}, "bc", false},
		{nil, []string{"abcdefgh", "abcdefg0", "abcdefg", ""}, "abcdefgh", false},
		{nil, []string{"abcdefg", "abcdefgh", "abcdefgh", ""}, "abcdefgh", true},
		{nil, []string{"0", "00", "000", "0000"}, "0000", true},
		{nil, []string{"a0", "a00", "ab", "a"}, "a00", false},
		{[]int{0}, []string{"x", "ab", "abc", "a"}, "abc", true},
		{[]int{0}, []string{"xxxxxxxx", "", "", ""}, "", true},
		{[]int{0}, []string{"abcd", "ab", "abc", "a"}, "abc", true},
		{[]int{1}, []string{"a", "bcd", "abc", "ab"}, "abc", true},
		{[]int{3}, []string{"a", "b", "a", "abcdefgh"}, "a", false},
		{[]int{2}, []string{"a", "ab", "b", "abcd"}, "abcd", true},
		{[]int{0, 6}, []string{"zz", "a", "ab", "ab", "", "abc", "zzzzzz"}, "abc", true},
		{[]int{0, 6}, []string{"zz", "a", "ab", "ac", "", "abc", "zzzzzz"}, "abc", false},
		{[]int{1}, []string{"a", "b", "a", "a", "a", "a", "b"}, "a", false},
	}
	for i, row := range known {
		var longest []string
		for _, letter := range row.longest {
			longest = append(longest, logLetter(len(row.logs), letter))
		}
		askLogs(t, fmt.Sprint(i, " ", row.faulty, row.logs), logGroup(row.faulty, row.logs...), longest, row.agree)
	}
}

// Logs that differ at one place alone, whatever the place, the node and the length.
func TestLogsThatDifferAtOnePlace(t *testing.T) {
	for _, nodes := range []int{4, 7} {
		for length := 1; length <= 8; length++ {
			log := slices.Repeat([]string{body(nodes, "a")}, length)
			for place := range length {
				for odd := range nodes {
					g := freshGroup(nodes)
					for id := range nodes {
						g.Replicas[id].Log = slices.Clone(log)
					}
					askLogs(t, "alike", g, log, true)
					g.Replicas[odd].Log[place] = null
					askLogs(t, fmt.Sprint("odd ", odd, " at ", place), g, g.Replicas[0].Log, false)
					g.Faulty = []int{odd}
					askLogs(t, fmt.Sprint("Faulty ", odd, " at ", place), g, log, true)
					g.Faulty = []int{(odd + 1) % nodes}
					askLogs(t, fmt.Sprint("odd ", odd, " at ", place, " and another Faulty"), g, ownLongest(g), false)
				}
			}
		}
	}
}

// certGroup is a group of nodes, each with a certificate for this body at this place of this view; without one for an empty body.
func certGroup(faulty []int, seq, view int, bodies ...string) impl.Group {
	g := freshGroup(len(bodies), faulty...)
	for id, text := range bodies {
		g.Replicas[id].View = 20
		if text != "" {
			g.Replicas[id].Certs[seq-1] = at8(len(bodies), view, seq, text)
		}
	}
	return g
}

func askCerts(t *testing.T, what string, g impl.Group, agree bool) {
	t.Helper()
	ahead := copyGroup(g)
	if got, code := impl.CertsAgree(g); got != agree || code != impl.OK {
		t.Errorf("CertsAgree, %s: %v %d", what, got, code)
	}
	askSameGroup(t, what+", its argument", g, ahead)
}

func TestCertsOfOneSeqAndView(t *testing.T) {
	a, b := body(4, "a"), body(4, "bb")
	for seq := 1; seq <= 8; seq++ {
		for _, view := range []int{0, 1, 20} {
			what := fmt.Sprint("Seq ", seq, ", View ", view)
			askCerts(t, what+", none", certGroup(nil, seq, view, "", "", "", ""), true)
			askCerts(t, what+", one", certGroup(nil, seq, view, "", "", a, ""), true)
			askCerts(t, what+", the same", certGroup(nil, seq, view, a, a, a, a), true)
			askCerts(t, what+", the same", certGroup(nil, seq, view, null, "", null, null), true)
			for odd := range 4 {
				for _, others := range []string{a, null} {
					bodies := slices.Repeat([]string{others}, 4)
					bodies[odd] = b
					askCerts(t, fmt.Sprint(what, ", odd ", odd), certGroup(nil, seq, view, bodies...), false)
					askCerts(t, fmt.Sprint(what, ", Faulty ", odd), certGroup([]int{odd}, seq, view, bodies...), true)
					askCerts(t, fmt.Sprint(what, ", odd ", odd, ", another Faulty"), certGroup([]int{(odd + 1) % 4}, seq, view, bodies...), false)
				}
				pair := []string{"", "", "", ""}
				pair[odd], pair[(odd+2)%4] = a, b
				askCerts(t, what+", two", certGroup(nil, seq, view, pair...), false)
			}
		}
	}
	askCerts(t, "one node", certGroup(nil, 3, 2, body(1, "a")), true)
}

// Another quorum of the same votes is no other body.
func TestCertsOfOtherQuorums(t *testing.T) {
	text := body(7, "a")
	all := quorums(7)
	for first := range all {
		g := freshGroup(7)
		for id := range 7 {
			g.Replicas[id].Certs[4] = cert(all[(first+3*id)%len(all)], 0, 5, text)
		}
		askCerts(t, "other quorums", g, true)
	}
}

// Certificates of different bodies, but of other views or other places.
func TestCertsOfOtherSeqsAndViews(t *testing.T) {
	a, b := body(4, "a"), body(4, "bb")
	for _, view := range []int{0, 1, 7, 20} {
		for other := range 21 {
			g := certGroup(nil, 3, view, a, "", "", "")
			g.Replicas[2].Certs[2] = at8(4, other, 3, b)
			askCerts(t, fmt.Sprint("Views ", view, " and ", other), g, view != other)
			g.Replicas[2].Certs[2] = at8(4, other, 3, a)
			askCerts(t, fmt.Sprint("Views ", view, " and ", other, ", one body"), g, true)
		}
	}
	for seq := 1; seq <= 8; seq++ {
		for other := 1; other <= 8; other++ {
			g := certGroup(nil, seq, 2, a, "", "", "")
			g.Replicas[3].Certs[other-1] = at8(4, 2, other, b)
			askCerts(t, fmt.Sprint("Seqs ", seq, " and ", other), g, seq != other)
		}
	}
}

// ownLogsAgree and ownCertsAgree hold all against all.
func ownLogsAgree(g impl.Group) bool {
	for a, x := range g.Replicas {
		for b, y := range g.Replicas {
			both := min(len(x.Log), len(y.Log))
			if !slices.Contains(g.Faulty, a) && !slices.Contains(g.Faulty, b) && !slices.Equal(x.Log[:both], y.Log[:both]) {
				return false
			}
		}
	}
	return true
}

func ownCertsAgree(g impl.Group) bool {
	bodies := map[[2]int]string{}
	for id, r := range g.Replicas {
		for _, c := range r.Certs {
			if len(c.Prepares) == 0 || slices.Contains(g.Faulty, id) {
				continue
			}
			place := [2]int{c.Prepares[0].View, c.Prepares[0].Seq}
			if text, known := bodies[place]; known && text != c.Body {
				return false
			}
			bodies[place] = c.Body
		}
	}
	return true
}

func ownLongest(g impl.Group) []string {
	var longest []string
	for id, r := range slices.Backward(g.Replicas) {
		if !slices.Contains(g.Faulty, id) && len(r.Log) >= len(longest) {
			longest = r.Log
		}
	}
	return longest
}

func TestDrawnLogsAndCerts(t *testing.T) {
	tally := map[string]int{}
	for run := range 300 {
		d := &drawn{seed: uint64(61000 + 10*run)}
		nodes := []int{4, 7, 4, 1}[run%4]
		g := freshGroup(nodes, drawFaulty(d, nodes)...)
		texts := []string{null, body(nodes, "a"), body(nodes, "bb")}
		oddity := 2 + d.below(40)
		draw := func(at int) string {
			if d.below(oddity) == 0 {
				at++
			}
			return texts[at%3]
		}
		for id := range nodes {
			r := &g.Replicas[id]
			r.View = 3
			for at := range d.below(9) {
				r.Log = append(r.Log, draw(at))
			}
			for at := range 8 {
				if view := d.below(5); view < 4 {
					r.Certs[at] = at8(nodes, view, at+1, draw(at+view))
				}
			}
		}
		logs, certs := ownLogsAgree(g), ownCertsAgree(g)
		askLogs(t, fmt.Sprint("run ", run), g, ownLongest(g), logs)
		askCerts(t, fmt.Sprint("run ", run), g, certs)
		tally[fmt.Sprint("logs ", logs)]++
		tally[fmt.Sprint("certs ", certs)]++
	}
	for _, word := range []string{"logs true", "logs false", "certs true", "certs false"} {
		if tally[word] < 30 {
			t.Errorf("the runs came by %q but %d times", word, tally[word])
		}
	}
}

// drawFaulty draws at most f nodes, rising.
func drawFaulty(d *drawn, nodes int) []int {
	var list []int
	for node := range nodes {
		if len(list) < ownFaults[nodes] && d.below(nodes) < 2 {
			list = append(list, node)
		}
	}
	return list
}
