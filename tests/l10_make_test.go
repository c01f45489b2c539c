package tests

import (
	"fmt"
	"math"
	"slices"
	"strings"
	"testing"

	"loop.example/g00292/impl"
)

// ownStable is a table's checkpoint, cut, rooted and voted for by the tests' own means.
func ownStable(seq int, x impl.Table, from ...int) impl.Stable {
	list := ownPieces(ownTableBytes(x))
	return voted(seq, len(list), ownPiecesRoot(list), from...)
}

// longestTable has the most bytes that a right table can have.
func longestTable() impl.Table {
	x := impl.Table{Time: topTime, Next: topNext}
	for i := range 4 {
		l := lock(fmt.Sprintf("a2345678901%d", i), topNext-1, 200, topExpiry)
		for client := range 4 {
			l.Waiters = append(l.Waiters, waiter(client, 1000))
		}
		x.Locks = append(x.Locks, l)
	}
	for client := range 6 {
		x.Seens = append(x.Seens, seen(250+client, 65535, told(impl.AnTwice, topNext, 255, topExpiry)))
	}
	return x
}

func askMade(t *testing.T, what string, nodes, seq int, x impl.Table, from []int, want impl.Stable, wantCode int) {
	t.Helper()
	got, code := impl.MakeStable(nodes, seq, x, from)
	if !sameStable(got, want) || code != wantCode {
		t.Errorf("MakeStable of %d at %d, %.120s: %x %d, not %x %d", nodes, seq, what, got, code, want, wantCode)
	}
}

func askNotMade(t *testing.T, what string, nodes, seq int, x impl.Table, from []int, code int) {
	t.Helper()
	askMade(t, what, nodes, seq, x, from, impl.Stable{}, code)
}

// Written out by the document's words, without the tests' own pieces and marks.
func TestMadeWrittenOut(t *testing.T) {
	x := impl.Table{Time: 5, Next: 2, Locks: []impl.Lock{lock("door", 1, 7, 9, waiter(8, 3))}}
	bytes := "\x00\x00\x00\x05" + "\x00\x00\x02" + "\x01" + "\x04door" + "\x00\x00\x01" + "\x00\x08" + "\x00\x00\x00\x09" + "\x01" + "\x08\x00\x03" + "\x00"
	if len(bytes) != 27 {
		t.Fatal(len(bytes))
	}
	root := sha("piece" + bytes)
	s, code := impl.MakeStable(4, 258, x, []int{0, 1, 3})
	if code != impl.OK || s.Seq != 258 || s.Size != 1 || s.Root != root || len(s.Votes) != 3 {
		t.Fatal(s, code)
	}
	for i, node := range []int{0, 1, 3} {
		mac := sha(sha("node key"+string([]byte{byte(node)})) + "checkpoint\x01\x02\x00\x01" + root)[:8]
		if s.Votes[i] != (impl.Vote{From: node, Mac: mac}) {
			t.Error(i, s.Votes[i])
		}
	}
}

func TestMadeOfRightTables(t *testing.T) {
	for i, x := range append(someTables(), longestTable()) {
		for _, nodes := range nodeCounts {
			for _, from := range quorums(nodes) {
				for _, seq := range []int{0, 1, 255, 256, topSeq} {
					what := fmt.Sprint("table ", i, " ", from)
					askMade(t, what, nodes, seq, x, from, ownStable(seq, x, from...), impl.OK)
					s, _ := impl.MakeStable(nodes, seq, x, from)
					askStable(t, what, nodes, s, true)
				}
			}
		}
	}
}

func TestMadeOfTheLeastAndTheMost(t *testing.T) {
	for _, row := range []struct {
		what string
		x    impl.Table
		size int
	}{
		{"the empty table", emptyTable(), 1}, {"the full table", fullTable(), 6}, {"the longest table", longestTable(), 8},
	} {
		b, _ := impl.TableBytes(row.x)
		if s, code := impl.MakeStable(1, 0, row.x, []int{0}); s.Size != row.size || s.Size != (len(b)+31)/32 || code != impl.OK {
			t.Errorf("%s: %d pieces of %d bytes, %d", row.what, s.Size, len(b), code)
		}
	}
}

// overfullTables would be right but for a bound of theirs; their bytes would be more than 64 pieces hold.
func overfullTables() []impl.Table {
	waits, wide := fullTable(), fullTable()
	for i := range 1000 {
		waits.Locks[0].Waiters = append(waits.Locks[0].Waiters, waiter(i%256, 1))
	}
	wide.Locks[3].Name = "a" + strings.Repeat("b", 2048)
	return []impl.Table{{Next: 1, Locks: manyLocks(200)}, {Next: 1, Seens: manySeens(200)}, {Next: 1, Locks: manyLocks(impl.MaxList + 1)}, waits, wide}
}

func TestMadeOfWrongTables(t *testing.T) {
	for i, x := range append(wrongTables(), overfullTables()...) {
		for _, nodes := range nodeCounts {
			for _, from := range append(quorums(nodes), nil, []int{0, 0}, []int{9}) {
				askNotMade(t, fmt.Sprint("table ", i), nodes, 9, x, from, impl.ErrBad)
			}
		}
	}
	for _, field := range tableFields() {
		for _, value := range append(edges(field.least, field.most), 1<<24+field.least) {
			x := copyTable(field.base)
			*field.at(&x) = value
			if impl.TableOK(x) {
				askMade(t, field.name, 4, 9, x, []int{1, 2, 3}, ownStable(9, x, 1, 2, 3), impl.OK)
			} else {
				askNotMade(t, field.name, 4, 9, x, []int{1, 2, 3}, impl.ErrBad)
			}
		}
	}
}

func TestMadeOfOtherNumbers(t *testing.T) {
	x := fullTable()
	for _, nodes := range noNodes() {
		for _, from := range [][]int{nil, {0}, {0, 1, 2}, {0, 1, 2, 3, 4}} {
			askNotMade(t, "no such number of nodes", nodes, 9, x, from, impl.ErrRange)
		}
	}
	for _, nodes := range nodeCounts {
		from := quorums(nodes)[0]
		for _, seq := range append(edges(0, topSeq), 1<<16+9, math.MinInt+9) {
			if seq >= 0 && seq <= topSeq {
				askMade(t, "", nodes, seq, x, from, ownStable(seq, x, from...), impl.OK)
			} else {
				askNotMade(t, "", nodes, seq, x, from, impl.ErrRange)
			}
		}
	}
}

func noQuorums(nodes int) [][]int {
	from := quorums(nodes)[0]
	last := from[len(from)-1]
	all := make([]int, nodes)
	for node := range all {
		all[node] = node
	}
	lists := [][]int{nil, {}, from[1:], from[:len(from)-1], append(slices.Clone(from), last), append([]int{from[0]}, from...), slices.Repeat([]int{from[0]}, impl.MaxList)}
	if nodes > 1 {
		turned := slices.Clone(from)
		slices.Reverse(turned)
		doubled := slices.Clone(from)
		doubled[1] = doubled[0]
		lists = append(lists, all, turned, doubled, slices.Repeat([]int{1}, len(from)), append(slices.Clone(from[1:]), from[0]))
	}
	for i := range from {
		for _, node := range []int{-1, nodes, nodes + 1, 7, 8, 64, 256 + from[i], 1<<32 + from[i], math.MinInt, math.MinInt + from[i], math.MaxInt} {
			strange := slices.Clone(from)
			strange[i] = node
			lists = append(lists, strange)
		}
	}
	return lists
}

func TestMadeOfNoQuorums(t *testing.T) {
	for _, nodes := range nodeCounts {
		for _, from := range noQuorums(nodes) {
			askNotMade(t, fmt.Sprintf("%.60v", from), nodes, 9, fullTable(), from, impl.ErrQuorum)
		}
		for _, count := range []int{impl.MaxList + 1, 2 * impl.MaxList} {
			askNotMade(t, "a long list", nodes, 9, fullTable(), make([]int, count), impl.ErrLong)
		}
	}
}

func TestMadeOfEverySet(t *testing.T) {
	for _, nodes := range nodeCounts {
		for set := range 1 << 7 {
			var from []int
			for node := range 7 {
				if set>>node&1 == 1 {
					from = append(from, node)
				}
			}
			if len(from) == 2*ownFaults[nodes]+1 && from[len(from)-1] < nodes {
				askMade(t, fmt.Sprint(from), nodes, 9, emptyTable(), from, ownStable(9, emptyTable(), from...), impl.OK)
			} else {
				askNotMade(t, fmt.Sprint(from), nodes, 9, emptyTable(), from, impl.ErrQuorum)
			}
		}
	}
}

func TestMadeCodesInTheirOrder(t *testing.T) {
	long := make([]int, impl.MaxList+1)
	for _, nodes := range []int{4, 0, 5, math.MinInt} {
		for _, seq := range []int{9, -1, topSeq + 1, math.MaxInt} {
			for _, x := range append(wrongTables(), fullTable()) {
				askNotMade(t, "a long list", nodes, seq, x, long, impl.ErrLong)
				for _, from := range append(noQuorums(4), []int{0, 1, 2}) {
					want := impl.OK
					switch {
					case nodes != 4 || seq != 9:
						want = impl.ErrRange
					case !impl.TableOK(x):
						want = impl.ErrBad
					case !slices.Equal(from, []int{0, 1, 2}):
						want = impl.ErrQuorum
					default:
						continue
					}
					askNotMade(t, fmt.Sprintf("%.60v", from), nodes, seq, x, from, want)
				}
			}
		}
	}
}

// ownProofs are proofs as texts, their hashes one behind the other.
func ownProofs(list []string) []string {
	var proofs []string
	for at := range list {
		proofs = append(proofs, strings.Join(ownProof(list, at), ""))
	}
	return proofs
}

func askProofs(t *testing.T, what string, list, want []string, wantCode int) {
	t.Helper()
	got, code := impl.ProofsOf(list)
	askPieces(t, "ProofsOf, "+what, got, code, want, wantCode)
}

func TestProofTextsWrittenOut(t *testing.T) {
	list := somePieces(5, 3)
	var p [5]string
	for i, piece := range list {
		p[i] = sha("piece" + piece)
	}
	left, right := sha("node"+p[0]+p[1]), sha("node"+p[2]+p[3])
	askProofs(t, "5 pieces", list, []string{p[1] + right + p[4], p[0] + right + p[4], p[3] + left + p[4], p[2] + left + p[4], sha("node" + left + right)}, impl.OK)
	askProofs(t, "a piece alone", []string{"p"}, []string{""}, impl.OK)
	askProofs(t, "a whole piece alone", []string{strings.Repeat("p", 32)}, []string{""}, impl.OK)
	askProofs(t, "nil", nil, nil, impl.OK)
	askProofs(t, "an empty list", []string{}, nil, impl.OK)
}

func TestProofTextsOfEveryPiece(t *testing.T) {
	for _, list := range proofLists() {
		what := fmt.Sprint(len(list), " pieces")
		askProofs(t, what, list, ownProofs(list), impl.OK)
		texts, _ := impl.ProofsOf(list)
		for at, text := range texts {
			proof, _ := impl.ProvePiece(list, at)
			if text != strings.Join(proof, "") || len(text) != 32*len(proof) {
				t.Errorf("%s: proof %d has %d bytes", what, at, len(text))
			}
		}
	}
	for count := 1; count <= 64; count++ {
		list := somePieces(count, 1+count%32)
		askProofs(t, fmt.Sprint(count, " pieces"), list, ownProofs(list), impl.OK)
	}
}

func TestProofTextsOfNoPieces(t *testing.T) {
	for what, list := range wrongPieces() {
		askProofs(t, what, list, nil, impl.ErrBad)
	}
	for _, piece := range []string{"", "p", strings.Repeat("p", 32), longText()} {
		for _, count := range []int{impl.MaxList + 1, 2 * impl.MaxList} {
			askProofs(t, "a long list", slices.Repeat([]string{piece}, count), nil, impl.ErrLong)
		}
	}
}
