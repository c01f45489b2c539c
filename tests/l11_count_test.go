package tests

import (
	"fmt"
	"math"
	"slices"
	"strings"
	"testing"

	"loop.example/g00292/impl"
)

const (
	mostCounted  = 60
	askingClient = 7
	askingStamp  = 300
)

func askCounting(t *testing.T, what string, nodes, client, stamp int, list []impl.Reply, want impl.Answer, wantCode int) {
	t.Helper()
	got, code := impl.CountReplies(nodes, client, stamp, list)
	if got != want || code != wantCode {
		t.Errorf("CountReplies of %d, %d replies to %d %d, %.160s: %v %d, not %v %d", nodes, len(list), client, stamp, what, got, code, want, wantCode)
	}
}

func askCounted(t *testing.T, what string, nodes, client, stamp int, list []impl.Reply, want impl.Answer) {
	t.Helper()
	askCounting(t, what, nodes, client, stamp, list, want, impl.OK)
}

func askNotCounted(t *testing.T, what string, nodes, client, stamp int, list []impl.Reply, code int) {
	t.Helper()
	askCounting(t, what, nodes, client, stamp, list, impl.Answer{}, code)
}

// ownCount tells what counting comes to, by sets of nodes.
func ownCount(nodes, client, stamp int, list []impl.Reply) (impl.Answer, int) {
	faults, known := ownFaults[nodes]
	switch {
	case len(list) > impl.MaxList:
		return impl.Answer{}, impl.ErrLong
	case !known:
		return impl.Answer{}, impl.ErrRange
	case len(list) > mostCounted:
		return impl.Answer{}, impl.ErrMany
	}
	gave := map[impl.Answer]map[int]bool{}
	for _, r := range list {
		if r.Client != client || r.Stamp != stamp || !ownReplyOK(nodes, r) {
			continue
		}
		if gave[r.Answer] == nil {
			gave[r.Answer] = map[int]bool{}
		}
		gave[r.Answer][r.Node] = true
		if len(gave[r.Answer]) > faults {
			return r.Answer, impl.OK
		}
	}
	return impl.Answer{}, impl.ErrQuorum
}

func askLikeOwn(t *testing.T, what string, nodes, client, stamp int, list []impl.Reply) int {
	t.Helper()
	want, code := ownCount(nodes, client, stamp, list)
	askCounting(t, what, nodes, client, stamp, list, want, code)
	return code
}

// The answers of the tests below: right ones, of which the second differs from the first by its Token alone.
func firstAnswer() impl.Answer  { return told(impl.AnOK, 1, 7, 30) }
func secondAnswer() impl.Answer { return told(impl.AnOK, 2, 7, 30) }
func thirdAnswer() impl.Answer  { return told(impl.AnNone, 0, -1, 0) }

func says(node int, a impl.Answer) impl.Reply { return reply(node, askingClient, askingStamp, a) }

// allSay are replies of these nodes that say the same.
func allSay(a impl.Answer, from ...int) []impl.Reply {
	var list []impl.Reply
	for _, node := range from {
		list = append(list, says(node, a))
	}
	return list
}

// saidText tells who said what, without marks.
func saidText(list []impl.Reply) string {
	var text []string
	for _, r := range list {
		text = append(text, fmt.Sprint(r.Node, " says ", r.Answer))
	}
	return strings.Join(text, ", ")
}

func firstNodes(count int) []int { return []int{0, 1, 2, 3, 4, 5, 6}[:count] }

func TestCountingOfNoNodes(t *testing.T) {
	for _, nodes := range noNodes() {
		for _, list := range [][]impl.Reply{nil, {}, allSay(firstAnswer(), 0), allSay(firstAnswer(), firstNodes(7)...), allSay(firstAnswer(), slices.Repeat([]int{0, 1, 2}, 20)...)} {
			askNotCounted(t, "no such number of nodes", nodes, askingClient, askingStamp, list, impl.ErrRange)
		}
	}
}

func TestCountingLengths(t *testing.T) {
	a := firstAnswer()
	for _, nodes := range nodeCounts {
		need := ownFaults[nodes] + 1
		askNotCounted(t, "nil", nodes, askingClient, askingStamp, nil, impl.ErrQuorum)
		askNotCounted(t, "empty", nodes, askingClient, askingStamp, []impl.Reply{}, impl.ErrQuorum)
		for _, size := range []int{1, 2, 3, 30, 58, 59, 60, 61, 62, 120, impl.MaxList - 1, impl.MaxList, impl.MaxList + 1, 3 * impl.MaxList} {
			code := impl.OK
			if size > impl.MaxList {
				code = impl.ErrLong
			} else if size > mostCounted {
				code = impl.ErrMany
			}
			none := slices.Repeat(allSay(a, 6), size)
			none[0] = impl.Reply{}
			askLikeOwn(t, "node 6 alone", nodes, askingClient, askingStamp, none)
			zeros := make([]impl.Reply, size)
			if code != impl.OK {
				askNotCounted(t, "replies of noughts", nodes, askingClient, askingStamp, zeros, code)
			} else {
				askNotCounted(t, "replies of noughts", nodes, askingClient, askingStamp, zeros, impl.ErrQuorum)
			}
			if size < need {
				continue
			}
			first, last := slices.Clone(zeros), slices.Clone(zeros)
			copy(first, allSay(a, firstNodes(need)...))
			copy(last[size-need:], allSay(a, firstNodes(need)...))
			for what, list := range map[string][]impl.Reply{"the first ones": first, "the last ones": last} {
				if code == impl.OK {
					askCounted(t, what, nodes, askingClient, askingStamp, list, a)
				} else {
					askNotCounted(t, what, nodes, askingClient, askingStamp, list, code)
				}
			}
		}
	}
}

func TestCountingCodesInTheirOrder(t *testing.T) {
	sizes := map[int]int{0: impl.ErrQuorum, 60: impl.ErrQuorum, 61: impl.ErrMany, impl.MaxList: impl.ErrMany, impl.MaxList + 1: impl.ErrLong}
	for size, code := range sizes {
		list, ahead := make([]impl.Reply, size), impl.ErrRange
		if code == impl.ErrLong {
			ahead = impl.ErrLong
		}
		for _, client := range []int{7, -1, 256} {
			for _, stamp := range []int{300, 0, 65536} {
				for _, nodes := range nodeCounts {
					askNotCounted(t, "nodes that there are", nodes, client, stamp, list, code)
				}
				for _, nodes := range noNodes() {
					askNotCounted(t, "no such nodes", nodes, client, stamp, list, ahead)
				}
			}
		}
	}
}

// No right reply is to a client or of a stamp that is out of bounds, though all have the marks of what they say.
func TestCountingOfClientsAndStamps(t *testing.T) {
	a := firstAnswer()
	ask := func(nodes, client, stamp int) {
		t.Helper()
		var list []impl.Reply
		for _, node := range firstNodes(nodes) {
			list = append(list, reply(node, client, stamp, a))
		}
		if client >= 0 && client <= 255 && stamp >= 1 && stamp <= 65535 {
			askCounted(t, "all say it", nodes, client, stamp, list, a)
		} else {
			askNotCounted(t, "all say it", nodes, client, stamp, list, impl.ErrQuorum)
		}
		askNotCounted(t, "to another client", nodes, client^1, stamp, list, impl.ErrQuorum)
		askNotCounted(t, "to another stamp", nodes, client, stamp^1, list, impl.ErrQuorum)
		askNotCounted(t, "to a far client", nodes, client+256, stamp, list, impl.ErrQuorum)
		askNotCounted(t, "to a far stamp", nodes, client, stamp+65536, list, impl.ErrQuorum)
		askNotCounted(t, "turned", nodes, stamp, client, list, impl.ErrQuorum)
	}
	for _, nodes := range nodeCounts {
		for _, client := range edges(0, 255) {
			ask(nodes, client, 300)
		}
		for _, stamp := range edges(1, 65535) {
			ask(nodes, 7, stamp)
		}
		ask(nodes, -1, 0)
		ask(nodes, math.MinInt, math.MaxInt)
	}
}

// Every set of the seven that may speak, whether they are nodes of that many or not, from either end.
func TestCountingOfEverySet(t *testing.T) {
	for _, nodes := range nodeCounts {
		for set := range 1 << 7 {
			var from []int
			count := 0
			for node := range 7 {
				if set>>node&1 == 1 {
					from = append(from, node)
					if node < nodes {
						count++
					}
				}
			}
			for _, a := range []impl.Answer{firstAnswer(), thirdAnswer()} {
				list := allSay(a, from...)
				for range 2 {
					if count > ownFaults[nodes] {
						askCounted(t, fmt.Sprint(from), nodes, askingClient, askingStamp, list, a)
					} else {
						askNotCounted(t, fmt.Sprint(from), nodes, askingClient, askingStamp, list, impl.ErrQuorum)
					}
					slices.Reverse(list)
				}
			}
		}
	}
}

func TestCountingOfEveryKindOfAnswer(t *testing.T) {
	for _, nodes := range nodeCounts {
		need := ownFaults[nodes] + 1
		for _, a := range someAnswers() {
			askCounted(t, "just f + 1", nodes, askingClient, askingStamp, allSay(a, firstNodes(need)...), a)
			askNotCounted(t, "just f", nodes, askingClient, askingStamp, allSay(a, firstNodes(need-1)...), impl.ErrQuorum)
			askCounted(t, "all", nodes, askingClient, askingStamp, allSay(a, firstNodes(nodes)...), a)
		}
	}
}

// A node that says it again is one node, however often, and whatever stands between.
func TestNodesThatSayItTwice(t *testing.T) {
	a, b := firstAnswer(), secondAnswer()
	for _, nodes := range []int{4, 7} {
		faults := ownFaults[nodes]
		for _, times := range []int{2, 3, 7, 25} {
			again := allSay(a, slices.Repeat(firstNodes(faults), times)...)
			askNotCounted(t, "f nodes, again and again", nodes, askingClient, askingStamp, again, impl.ErrQuorum)
			between := append(allSay(a, firstNodes(faults)...), append([]impl.Reply{says(nodes-1, b)}, again...)...)
			askNotCounted(t, "with another between", nodes, askingClient, askingStamp, between, impl.ErrQuorum)
			askCounted(t, "and one more node", nodes, askingClient, askingStamp, append(again, says(faults, a)), a)
			askCounted(t, "and one more node, ahead", nodes, askingClient, askingStamp, append([]impl.Reply{says(faults, a)}, again...), a)
		}
		askNotCounted(t, "one node 60 times", nodes, askingClient, askingStamp, allSay(a, slices.Repeat([]int{2}, 60)...), impl.ErrQuorum)
	}
	askNotCounted(t, "a, b, a of one node", 4, askingClient, askingStamp, []impl.Reply{says(0, a), says(0, b), says(0, a)}, impl.ErrQuorum)
	askNotCounted(t, "a, another's b, a", 4, askingClient, askingStamp, []impl.Reply{says(0, a), says(1, b), says(0, a)}, impl.ErrQuorum)
	askNotCounted(t, "a, a of two of 7, b, a", 7, askingClient, askingStamp, []impl.Reply{says(0, a), says(1, a), says(2, b), says(0, a), says(1, a)}, impl.ErrQuorum)
	askCounted(t, "a twice of the one node", 1, askingClient, askingStamp, allSay(a, 0, 0), a)
}

// A node that says two things gave both: each counts with what others gave.
func TestNodesThatSayTwoThings(t *testing.T) {
	a, b, c := firstAnswer(), secondAnswer(), thirdAnswer()
	for _, row := range []struct {
		nodes int
		list  []impl.Reply
		want  impl.Answer
		code  int
	}{
		{4, []impl.Reply{says(0, a), says(0, b)}, impl.Answer{}, impl.ErrQuorum},
		{4, []impl.Reply{says(0, a), says(0, b), says(0, c)}, impl.Answer{}, impl.ErrQuorum},
		{4, []impl.Reply{says(0, a), says(0, b), says(1, b)}, b, impl.OK},
		{4, []impl.Reply{says(0, a), says(0, b), says(1, a)}, a, impl.OK},
		{4, []impl.Reply{says(1, b), says(0, a), says(0, b)}, b, impl.OK},
		{4, []impl.Reply{says(0, a), says(1, b), says(0, c), says(1, a), says(0, b)}, a, impl.OK},
		{4, []impl.Reply{says(0, a), says(1, b), says(0, b), says(1, a)}, b, impl.OK},
		{7, []impl.Reply{says(0, a), says(0, b), says(1, a), says(1, b)}, impl.Answer{}, impl.ErrQuorum},
		{7, []impl.Reply{says(0, a), says(0, b), says(1, a), says(1, b), says(2, b), says(3, a)}, b, impl.OK},
		{7, []impl.Reply{says(0, a), says(0, b), says(1, a), says(1, b), says(2, c), says(2, a), says(2, b)}, a, impl.OK},
		{1, []impl.Reply{says(0, b), says(0, a)}, b, impl.OK},
		{1, []impl.Reply{says(1, b), says(0, a), says(0, b)}, a, impl.OK},
	} {
		askCounting(t, saidText(row.list), row.nodes, askingClient, askingStamp, row.list, row.want, row.code)
	}
}

// Of two answers that f + 1 nodes gave the one counts that had them first, not the one that was begun first or that more gave.
func TestTheFirstOfTwoAnswers(t *testing.T) {
	a, b, c := firstAnswer(), secondAnswer(), thirdAnswer()
	for _, row := range []struct {
		nodes int
		list  []impl.Reply
		want  impl.Answer
	}{
		{4, []impl.Reply{says(0, a), says(1, b), says(2, b), says(3, a)}, b},
		{4, []impl.Reply{says(0, a), says(1, b), says(2, a), says(3, b)}, a},
		{4, []impl.Reply{says(3, b), says(1, a), says(0, c), says(2, a), says(0, b)}, a},
		{4, []impl.Reply{says(0, a), says(1, a), says(1, b), says(2, b), says(3, b)}, a},
		{7, []impl.Reply{says(0, a), says(1, a), says(2, b), says(3, b), says(4, b), says(5, a), says(6, a)}, b},
		{7, []impl.Reply{says(6, a), says(5, b), says(4, a), says(3, b), says(2, a), says(1, b)}, a},
		{7, []impl.Reply{says(6, a), says(5, b), says(4, a), says(3, b), says(1, b), says(2, a)}, b},
		{7, []impl.Reply{says(0, c), says(1, b), says(2, a), says(3, a), says(4, b), says(5, b), says(6, a)}, b},
		{1, []impl.Reply{says(0, b), says(0, a), says(0, a), says(0, a)}, b},
	} {
		askCounted(t, saidText(row.list), row.nodes, askingClient, askingStamp, row.list, row.want)
	}
}

// All short lists of a few nodes that say one of two things each time.
func TestEveryShortList(t *testing.T) {
	for _, row := range []struct{ nodes, from, size int }{{1, 2, 5}, {4, 3, 5}, {4, 4, 4}, {7, 3, 5}, {7, 4, 4}} {
		var every []impl.Reply
		for node := range row.from {
			every = append(every, says(node, firstAnswer()), says(node, secondAnswer()))
		}
		runs := 1
		for range row.size {
			runs *= len(every)
		}
		decided := 0
		for run := range runs {
			var list []impl.Reply
			for i, rest := 0, run; i < row.size; i, rest = i+1, rest/len(every) {
				list = append(list, every[rest%len(every)])
			}
			if askLikeOwn(t, fmt.Sprint("list ", run), row.nodes, askingClient, askingStamp, list) == impl.OK {
				decided++
			}
		}
		if decided == 0 || decided == runs {
			t.Errorf("%v: %d of %d are decided", row, decided, runs)
		}
	}
}

// Answers that differ in one field alone are different answers.
func TestAnswersThatDifferInOneField(t *testing.T) {
	a := told(impl.AnHeld, 66051, 9, 16909060)
	for _, f := range replyFields()[3:] {
		for _, by := range []int{-1, 1, 2} {
			near := says(0, a)
			*f.at(&near) += by
			b := near.Answer
			for _, nodes := range []int{4, 7} {
				faults := ownFaults[nodes]
				what := fmt.Sprint(a, " and ", b)
				list := append(allSay(a, firstNodes(faults)...), says(faults, b))
				askNotCounted(t, what, nodes, askingClient, askingStamp, list, impl.ErrQuorum)
				askCounted(t, what, nodes, askingClient, askingStamp, append(slices.Clone(list), says(faults+1, a)), a)
				other := append(allSay(b, firstNodes(faults)...), says(nodes-1, a), says(nodes-2, b))
				askCounted(t, what, nodes, askingClient, askingStamp, other, b)
			}
		}
	}
}

// noVoices are replies that count for nothing among that many nodes, whatever they say and however often.
func noVoices(nodes int, a impl.Answer) []impl.Reply {
	list := []impl.Reply{{}, {Node: 0, Client: askingClient, Stamp: askingStamp, Answer: a}}
	for _, node := range firstNodes(nodes) {
		for _, f := range replyFields() {
			for _, n := range []int{f.least - 1, f.most + 1, math.MinInt, math.MaxInt} {
				r := says(node, a)
				*f.at(&r) = n
				list = append(list, r, marked(r))
			}
		}
		list = append(list,
			reply(node, askingClient+1, askingStamp, a), reply(node, askingClient-1, askingStamp, a), reply(node, askingClient, askingStamp+1, a), reply(node, askingClient, askingStamp-1, a),
			reply(node, 0, askingStamp, a), reply(node, askingClient, 1, a), reply(node, askingClient, askingStamp%256, a))
		for _, mac := range otherReplyMacs(says(node, a))[:30] {
			r := says(node, a)
			r.Mac = mac
			list = append(list, r)
		}
	}
	for node := nodes; node <= 12; node++ {
		list = append(list, says(node, a))
	}
	return append(list, says(-1, a), says(256, a), says(math.MinInt, a), says(math.MaxInt, a))
}

// One that counts for nothing, at every place among those that do, and many of them.
func TestRepliesThatDoNotCount(t *testing.T) {
	a, b := firstAnswer(), secondAnswer()
	for _, nodes := range nodeCounts {
		faults := ownFaults[nodes]
		fewer := append(allSay(a, firstNodes(faults)...), allSay(b, firstNodes(faults)...)...)
		decided := append(slices.Clone(fewer), allSay(b, faults)...)
		junk := noVoices(nodes, a)
		for i, r := range junk {
			what := fmt.Sprintf("%d, to %d %d, %s with %.20x", i, r.Client, r.Stamp, saidText([]impl.Reply{r}), r.Mac)
			for at := range len(decided) + 1 {
				askCounted(t, what, nodes, askingClient, askingStamp, slices.Insert(slices.Clone(decided), at, r), b)
			}
			for at := range len(fewer) + 1 {
				askNotCounted(t, what, nodes, askingClient, askingStamp, slices.Insert(slices.Clone(fewer), at, r), impl.ErrQuorum)
			}
		}
		for start := 0; start < len(junk); start += 40 {
			some := junk[start:min(start+40, len(junk))]
			askNotCounted(t, "nothing else", nodes, askingClient, askingStamp, some, impl.ErrQuorum)
			askNotCounted(t, "ahead of too few", nodes, askingClient, askingStamp, slices.Concat(some, fewer), impl.ErrQuorum)
			askCounted(t, "ahead of enough", nodes, askingClient, askingStamp, slices.Concat(some, decided), b)
		}
	}
}

// What the one asks is not answered by what another one was told.
func TestCountingApartByCall(t *testing.T) {
	a, b := firstAnswer(), secondAnswer()
	for _, nodes := range nodeCounts {
		need := ownFaults[nodes] + 1
		var list []impl.Reply
		for _, node := range firstNodes(need) {
			list = append(list, reply(node, 10, 1, a), reply(node, 10, 2, b), reply(node, 11, 1, thirdAnswer()))
		}
		askCounted(t, "client 10, stamp 1", nodes, 10, 1, list, a)
		askCounted(t, "client 10, stamp 2", nodes, 10, 2, list, b)
		askCounted(t, "client 11, stamp 1", nodes, 11, 1, list, thirdAnswer())
		askNotCounted(t, "client 11, stamp 2", nodes, 11, 2, list, impl.ErrQuorum)
		askNotCounted(t, "client 1, stamp 10", nodes, 1, 10, list, impl.ErrQuorum)
	}
}
