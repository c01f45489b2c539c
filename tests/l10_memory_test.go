package tests

import (
	"fmt"
	"slices"
	"strconv"
	"testing"

	"loop.example/g00292/impl"
)

var behindVote = impl.Vote{From: 77, Mac: "behind"}

func TestCheckpointArgumentsAreKept(t *testing.T) {
	for _, table := range append(someTables(), longestTable(), wrongTables()[4]) {
		for _, nodes := range []int{1, 4, 7, 5} {
			x, text := roomyTable(table)
			ahead := text()
			for _, from := range [][]int{{0}, {0, 2, 3}, {1, 2, 3, 4, 6}, {3, 2, 0}, {0, 0, 1}, nil} {
				askKept(t, "MakeStable", from, 77, func(from []int) { impl.MakeStable(nodes, 9, x, from) })
			}
			if text() != ahead {
				t.Fatalf("MakeStable writes into its table: %s, then %s", ahead, text())
			}
		}
	}
	lists := append(proofLists(), nil, []string{""}, slices.Repeat([]string{"p"}, 70))
	for _, list := range lists {
		askKept(t, "ProofsOf", list, "behind", func(list []string) { impl.ProofsOf(list) })
	}
}

func TestHandedArgumentsAreKept(t *testing.T) {
	d := &drawn{seed: 19}
	for _, right := range someHanded() {
		for i := range 6 {
			h := right
			if i > 0 {
				h = drawHanded(d, right)
			}
			askKept(t, "InstallTable", h.stable.Votes, behindVote, func(votes []impl.Vote) {
				askKept(t, "InstallTable", h.pieces, "behind", func(pieces []string) {
					askKept(t, "InstallTable", h.proofs, "behind", func(proofs []string) {
						s := impl.Stable{Seq: h.stable.Seq, Size: h.stable.Size, Root: h.stable.Root, Votes: votes}
						impl.StableOK(h.nodes, s)
						impl.InstallTable(h.nodes, s, pieces, proofs)
					})
				})
			})
		}
	}
}

// What lies behind an argument's end is no part of it.
func TestCheckpointsEndWithTheirLists(t *testing.T) {
	x := longestTable()
	h := handedTable(4, x)
	s := h.stable
	s.Votes = append(slices.Clone(s.Votes), behindVote)[:3]
	askStable(t, "a vote behind the end", 4, s, true)
	pieces, proofs := append(slices.Clone(h.pieces), "behind")[:8], append(slices.Clone(h.proofs), "behind")[:8]
	askInstalled(t, "more behind the ends", 4, s, pieces, proofs, x, impl.OK)
	askMade(t, "a node behind the end", 4, 9, x, []int{0, 1, 3, 2}[:3], ownStable(9, x, 0, 1, 3), impl.OK)
	askProofs(t, "pieces behind the end", somePieces(9, 32)[:3], ownProofs(somePieces(9, 32)[:3]), impl.OK)
}

func TestMadeIsNewMemory(t *testing.T) {
	for i, table := range append(someTables(), longestTable()) {
		for _, nodes := range nodeCounts {
			from := slices.Clone(quorums(nodes)[0])
			x, want := copyTable(table), ownStable(9, table, from...)
			a, _ := impl.MakeStable(nodes, 9, x, from)
			b, _ := impl.MakeStable(nodes, 9, x, from)
			ruinTable(x)
			ruin(from, -9)
			if !sameStable(a, want) || !sameStable(b, want) {
				t.Errorf("table %d: a checkpoint changes with what it was made of", i)
			}
			askApart(t, "MakeStable", func(list int) impl.Vote { return impl.Vote{From: list} }, a.Votes, b.Votes)
		}
	}
}

func TestProofTextsAreNewMemory(t *testing.T) {
	for _, list := range proofLists() {
		want, kept := ownProofs(list), slices.Clone(list)
		a, _ := impl.ProofsOf(list)
		b, _ := impl.ProofsOf(list)
		ruin(list, "ruined")
		what := fmt.Sprint("ProofsOf of ", len(list))
		askPieces(t, what, a, impl.OK, want, impl.OK)
		copy(list, kept)
		askApart(t, what, strconv.Itoa, a, b)
		askPieces(t, what, list, impl.OK, kept, impl.OK)
	}
}

func TestTakenIsNewMemory(t *testing.T) {
	for i, x := range append(someTables(), longestTable()) {
		for _, nodes := range nodeCounts {
			h := handedTable(nodes, x)
			kept := h.copied()
			a, _ := impl.InstallTable(nodes, h.stable, h.pieces, h.proofs)
			b, _ := impl.InstallTable(nodes, h.stable, h.pieces, h.proofs)
			ruinTable(a)
			askSameTable(t, fmt.Sprint("table ", i, " beside a ruined one"), b, x)
			if !sameStable(h.stable, kept.stable) || !slices.Equal(h.pieces, kept.pieces) || !slices.Equal(h.proofs, kept.proofs) {
				t.Errorf("table %d: what was handed on changes with what was taken", i)
			}
			ruin(h.pieces, "ruined")
			ruin(h.proofs, "ruined")
			ruin(h.stable.Votes, behindVote)
			askSameTable(t, fmt.Sprint("table ", i, " of ruined pieces"), b, x)
			var waiters [][]impl.Waiter
			for _, l := range b.Locks {
				waiters = append(waiters, l.Waiters)
			}
			askApart(t, "InstallTable", func(list int) impl.Waiter { return waiter(list, list) }, waiters...)
		}
	}
}
