package tests

import (
	"fmt"
	"math"
	"slices"
	"strings"
	"testing"

	"loop.example/g00292/impl"
)

const topSeq = 65535

func ownVote(from, seq, size int, root string) string {
	return ownMark(from, "checkpoint"+two(seq)+two(size)+root)
}

// voted has the right votes of these nodes for what it says, be that right or not.
func voted(seq, size int, root string, from ...int) impl.Stable {
	s := impl.Stable{Seq: seq, Size: size, Root: root}
	for _, node := range from {
		s.Votes = append(s.Votes, impl.Vote{From: node, Mac: ownVote(node, seq, size, root)})
	}
	return s
}

func copyStable(s impl.Stable) impl.Stable {
	s.Votes = slices.Clone(s.Votes)
	return s
}

func sameStable(a, b impl.Stable) bool {
	return a.Seq == b.Seq && a.Size == b.Size && a.Root == b.Root && slices.Equal(a.Votes, b.Votes)
}

// nodeCounts are the numbers of nodes that there are.
var nodeCounts = []int{1, 4, 7}

func askVote(t *testing.T, from, seq, size int, root string, want string, wantCode int) {
	t.Helper()
	got, code := impl.VoteMac(from, seq, size, root)
	askText(t, fmt.Sprintf("VoteMac %d %d %d %.40x", from, seq, size, root), got, code, want, wantCode)
}

func TestVotesWrittenOut(t *testing.T) {
	root := "0123456789abcdefghijklmnopqrstuv"
	known := []struct {
		from, seq, size int
		bytes           string
	}{
		{0, 0, 1, "checkpoint\x00\x00\x00\x01" + root},
		{6, 65535, 64, "checkpoint\xff\xff\x00\x40" + root},
		{2, 258, 9, "checkpoint\x01\x02\x00\x09" + root},
		{5, 1, 2, "checkpoint\x00\x01\x00\x02" + root},
	}
	for _, row := range known {
		secret := sha("node key" + string([]byte{byte(row.from)}))
		askVote(t, row.from, row.seq, row.size, root, sha(secret + row.bytes)[:8], impl.OK)
	}
}

func TestVotesOfEveryNode(t *testing.T) {
	root := sha("root")
	for from := range 7 {
		for _, seq := range []int{0, 1, 255, 256, 257, 65534, topSeq} {
			for _, size := range []int{1, 2, 32, 63, 64} {
				askVote(t, from, seq, size, root, ownVote(from, seq, size, root), impl.OK)
			}
		}
	}
	for _, other := range otherHashes(root) {
		askVote(t, 3, 9, 4, other, ownVote(3, 9, 4, other), impl.OK)
	}
}

func TestVoteNumbers(t *testing.T) {
	root := sha("root")
	ask := func(value, from, seq, size, least, most, code int) {
		t.Helper()
		if value >= least && value <= most {
			askVote(t, from, seq, size, root, ownVote(from, seq, size, root), impl.OK)
		} else {
			askVote(t, from, seq, size, root, "", code)
		}
	}
	for _, n := range append(edges(0, 6), 8, math.MinInt+3, 1<<32+3) {
		ask(n, n, 5, 5, 0, 6, impl.ErrRange)
	}
	for _, n := range append(edges(0, topSeq), 1<<16+5, math.MinInt+5) {
		ask(n, 3, n, 5, 0, topSeq, impl.ErrBad)
	}
	for _, n := range append(edges(1, 64), 1<<16+5, 66, 256+5, math.MinInt+5) {
		ask(n, 3, 5, n, 1, 64, impl.ErrBad)
	}
}

func TestVoteRoots(t *testing.T) {
	root := sha("root")
	for _, other := range noHashes(root) {
		askVote(t, 3, 5, 5, other, "", impl.ErrBad)
	}
	for _, size := range []int{0, 1, 31, 33, 64, impl.MaxText - 1, impl.MaxText} {
		askVote(t, 3, 5, 5, strings.Repeat("r", size), "", impl.ErrBad)
	}
	for _, size := range []int{impl.MaxText + 1, 4 * impl.MaxText} {
		askVote(t, 3, 5, 5, strings.Repeat("r", size), "", impl.ErrLong)
	}
	askVote(t, 3, 5, 5, strings.Repeat("r", 32), ownVote(3, 5, 5, strings.Repeat("r", 32)), impl.OK)
}

func TestVoteCodesInTheirOrder(t *testing.T) {
	root := sha("root")
	for _, from := range []int{-1, 7, math.MinInt, math.MaxInt} {
		for _, seq := range []int{5, -1, topSeq + 1, math.MaxInt} {
			for _, size := range []int{5, 0, 65, -1, math.MinInt} {
				for _, short := range []string{root, "", root[1:], root + "x"} {
					askVote(t, from, seq, size, short, "", impl.ErrRange)
				}
				askVote(t, from, seq, size, longText(), "", impl.ErrLong)
				askVote(t, 3, seq, size, longText(), "", impl.ErrLong)
			}
		}
	}
	for _, seq := range []int{-1, topSeq + 1} {
		for _, size := range []int{0, 65} {
			askVote(t, 3, seq, size, root[1:], "", impl.ErrBad)
			askVote(t, 3, seq, size, root, "", impl.ErrBad)
		}
		askVote(t, 3, seq, 5, root[1:], "", impl.ErrBad)
	}
}

// Votes for different things are different, so that none can be told as another's.
func TestVotesTellApart(t *testing.T) {
	seen := map[string]string{}
	for from := range 7 {
		for _, seq := range []int{0, 1, 2, 256, 512, topSeq} {
			for size := 1; size <= 64; size++ {
				for _, root := range []string{sha("a"), sha("b")} {
					what := fmt.Sprint(from, seq, size, root)
					mac, _ := impl.VoteMac(from, seq, size, root)
					if other, known := seen[mac]; known {
						t.Errorf("%x has the vote of %x", what, other)
					}
					seen[mac] = what
				}
			}
		}
	}
}

func askStable(t *testing.T, what string, nodes int, s impl.Stable, want bool) {
	t.Helper()
	if got := impl.StableOK(nodes, s); got != want {
		t.Errorf("StableOK of %d, %.120s: %v", nodes, what, got)
	}
	if want {
		return
	}
	wantCode := impl.ErrSigned
	if _, known := ownFaults[nodes]; !known {
		wantCode = impl.ErrRange
	}
	askInstalled(t, what, nodes, s, []string{"p"}, []string{""}, impl.Table{}, wantCode)
}

func TestStablesOfEveryQuorum(t *testing.T) {
	root := sha("root")
	for _, nodes := range nodeCounts {
		for _, from := range quorums(nodes) {
			for _, seq := range []int{0, 1, 256, topSeq} {
				for _, size := range []int{1, 8, 64} {
					askStable(t, fmt.Sprint(from), nodes, voted(seq, size, root, from...), true)
				}
			}
		}
	}
}

// Every set of the seven nodes that may vote, whether they are nodes of that many or not.
func TestStablesOfEverySet(t *testing.T) {
	root := sha("root")
	for _, nodes := range nodeCounts {
		for set := range 1 << 7 {
			var from []int
			for node := range 7 {
				if set>>node&1 == 1 {
					from = append(from, node)
				}
			}
			right := len(from) == 2*ownFaults[nodes]+1 && from[len(from)-1] < nodes
			askStable(t, fmt.Sprint(from), nodes, voted(7, 7, root, from...), right)
		}
	}
}

func TestStablesOfOtherNumbersOfNodes(t *testing.T) {
	for _, from := range [][]int{{}, {0}, {0, 1}, {0, 1, 2}, {0, 1, 2, 3}, {0, 1, 2, 3, 4}, {0, 1, 2, 3, 4, 5, 6}} {
		s := voted(7, 7, sha("root"), from...)
		for _, nodes := range noNodes() {
			askStable(t, fmt.Sprint(from), nodes, s, false)
		}
	}
}

// What is voted for must be right, though all votes are of just that.
func TestStableFields(t *testing.T) {
	root := sha("root")
	for _, nodes := range nodeCounts {
		from := quorums(nodes)[0]
		for _, n := range append(edges(0, topSeq), 1<<16+7) {
			askStable(t, fmt.Sprint("Seq ", n), nodes, voted(n, 7, root, from...), n >= 0 && n <= topSeq)
		}
		for _, n := range append(edges(1, 64), 1<<16+7) {
			askStable(t, fmt.Sprint("Size ", n), nodes, voted(7, n, root, from...), n >= 1 && n <= 64)
		}
		for _, other := range append(noHashes(root), longText()) {
			askStable(t, fmt.Sprintf("Root %.20x", other), nodes, voted(7, 7, other, from...), false)
		}
		for _, other := range otherHashes(root) {
			askStable(t, fmt.Sprintf("Root %x", other), nodes, voted(7, 7, other, from...), true)
		}
	}
}

// Votes are for one Seq, Size and Root alone.
func TestStablesOfOtherVotes(t *testing.T) {
	root := sha("root")
	for _, nodes := range nodeCounts {
		for _, from := range quorums(nodes) {
			right := voted(7, 8, root, from...)
			for what, s := range map[string]impl.Stable{
				"another Seq":  {Seq: 8, Size: 8, Root: root, Votes: right.Votes},
				"a far Seq":    {Seq: 7 + 256, Size: 8, Root: root, Votes: right.Votes},
				"another Size": {Seq: 7, Size: 9, Root: root, Votes: right.Votes},
				"both turned":  {Seq: 8, Size: 7, Root: root, Votes: right.Votes},
				"another Root": {Seq: 7, Size: 8, Root: sha("other"), Votes: right.Votes},
				"a near Root":  {Seq: 7, Size: 8, Root: flip(root, 31), Votes: right.Votes},
			} {
				askStable(t, what, nodes, s, false)
			}
		}
	}
}

// otherMacs are marks that are not those of vote i.
func otherMacs(s impl.Stable, i int) []string {
	v := s.Votes[i]
	body := "checkpoint" + two(s.Seq) + two(s.Size) + s.Root
	list := []string{
		"", v.Mac[:7], v.Mac + "x", v.Mac + v.Mac, flip(v.Mac, 0), flip(v.Mac, 7), strings.ToUpper(fmt.Sprintf("%x", v.Mac)),
		ownVote((v.From+1)%7, s.Seq, s.Size, s.Root), ownVote(v.From, s.Seq+1, s.Size, s.Root), ownVote(v.From, s.Seq, s.Size+1, s.Root),
		ownVote(v.From, s.Seq, s.Size, sha("other")), ownMark(v.From, body[1:]), ownMark(v.From, "stable"+body[10:]), ownMark(v.From, body+"\x00"),
		ownMark(v.From, "checkpoint"+one(s.Seq)+one(s.Size)+s.Root), ownMark(v.From, "checkpoint"+two(s.Size)+two(s.Seq)+s.Root),
		sha(sha("node key", one(v.From)), body), sha(body)[:8], strings.Repeat("\x00", 8), longText(),
	}
	return slices.DeleteFunc(list, func(mac string) bool { return mac == v.Mac })
}

func TestStablesOfOtherMacs(t *testing.T) {
	for _, nodes := range nodeCounts {
		right := voted(7, 8, sha("root"), quorums(nodes)[0]...)
		for i := range right.Votes {
			for _, mac := range otherMacs(right, i) {
				s := copyStable(right)
				s.Votes[i].Mac = mac
				askStable(t, fmt.Sprintf("vote %d with %.20x", i, mac), nodes, s, false)
			}
			for _, from := range append(edges(0, 6), nodes, nodes-1) {
				s := copyStable(right)
				s.Votes[i].From = from
				askStable(t, fmt.Sprint("vote ", i, " said to be of ", from), nodes, s, from == right.Votes[i].From)
			}
		}
	}
}

func TestStablesOfOtherCounts(t *testing.T) {
	root := sha("root")
	for _, nodes := range nodeCounts {
		from := quorums(nodes)[0]
		right := voted(7, 8, root, from...)
		askStable(t, "no votes", nodes, voted(7, 8, root), false)
		askStable(t, "an empty list of votes", nodes, impl.Stable{Seq: 7, Size: 8, Root: root, Votes: []impl.Vote{}}, false)
		for i := range from {
			fewer := copyStable(right)
			fewer.Votes = slices.Delete(fewer.Votes, i, i+1)
			askStable(t, fmt.Sprint("without vote ", i), nodes, fewer, false)
			twice := copyStable(right)
			twice.Votes = slices.Insert(twice.Votes, i, twice.Votes[i])
			askStable(t, fmt.Sprint("vote ", i, " once more"), nodes, twice, false)
			for j := range from {
				if i != j {
					doubled, turned := copyStable(right), copyStable(right)
					doubled.Votes[i] = doubled.Votes[j]
					turned.Votes[i], turned.Votes[j] = turned.Votes[j], turned.Votes[i]
					askStable(t, fmt.Sprint("vote ", j, " as vote ", i), nodes, doubled, false)
					askStable(t, fmt.Sprint("votes ", i, " and ", j, " turned"), nodes, turned, false)
				}
			}
		}
		for _, count := range []int{64, 256 + len(from), impl.MaxList, impl.MaxList + 1, 3 * impl.MaxList} {
			many := copyStable(right)
			many.Votes = append(many.Votes, slices.Repeat([]impl.Vote{right.Votes[0]}, count-len(from))...)
			askStable(t, fmt.Sprint(count, " votes"), nodes, many, false)
		}
		for _, other := range []int{-1, nodes, 7, 8, 64, math.MinInt, math.MaxInt} {
			more := voted(7, 8, root, append(slices.Clone(from), other)...)
			askStable(t, fmt.Sprint("one more of ", other), nodes, more, false)
		}
	}
}

// Nodes that are none have marks, too, if one only takes their numbers.
func TestStablesOfNoNodes(t *testing.T) {
	root := sha("root")
	for _, row := range []struct {
		nodes int
		from  []int
	}{
		{1, []int{1}}, {1, []int{-1}}, {1, []int{6}}, {1, []int{256}}, {1, []int{math.MinInt}},
		{4, []int{0, 1, 4}}, {4, []int{-1, 0, 1}}, {4, []int{0, 1, 257}}, {4, []int{4, 5, 6}},
		{7, []int{0, 1, 2, 3, 7}}, {7, []int{-1, 0, 1, 2, 3}}, {7, []int{0, 1, 2, 3, 64}}, {7, []int{0, 1, 2, 3, 260}},
	} {
		askStable(t, fmt.Sprint(row.from), row.nodes, voted(7, 8, root, row.from...), false)
	}
}
