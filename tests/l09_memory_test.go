package tests

import (
	"fmt"
	"slices"
	"strconv"
	"testing"

	"loop.example/g00292/impl"
)

func TestPieceArgumentsAreKept(t *testing.T) {
	for _, size := range []int{0, 1, 32, 33, 70, mostCut - 1, mostCut, mostCut + 1, impl.MaxText + 1} {
		unchanged(t, "CutPieces", noise(uint64(size), size), func(b []byte) { impl.CutPieces(b) })
	}
	lists := append(proofLists(), nil, []string{""}, slices.Repeat([]string{"p"}, 70))
	for _, list := range lists {
		askKept(t, "JoinPieces", list, "behind", func(list []string) { impl.JoinPieces(list) })
		askKept(t, "PiecesRoot", list, "behind", func(list []string) { impl.PiecesRoot(list) })
		for at := -1; at <= len(list); at++ {
			askKept(t, "ProvePiece", list, "behind", func(list []string) { impl.ProvePiece(list, at) })
		}
	}
	for _, p := range allProved() {
		for _, at := range []int{p.at, 0, -1, p.size - 1, p.size} {
			askKept(t, "CheckPiece", p.proof, "behind", func(proof []string) { impl.CheckPiece(p.root, p.piece, at, p.size, proof) })
		}
	}
}

// What lies behind an argument's end is no part of it.
func TestPiecesEndWithTheirLists(t *testing.T) {
	whole := noise(5, 300)
	askCut(t, whole[:70], ownPieces(string(whole[:70])), impl.OK)
	list := somePieces(9, 32)
	askJoined(t, "3 of 9", list[:3], list[0]+list[1]+list[2], impl.OK)
	askRoot(t, "3 of 9", list[:3], writtenRoot(list[:3]))
	p := provedAt(list, 2)
	askCheck(t, "behind the end", p.root, p.piece, p.at, p.size, append(p.proof, "behind")[:len(p.proof)], impl.OK)
}

func TestPiecesAreNewMemory(t *testing.T) {
	for _, size := range []int{1, 31, 32, 33, 70, mostCut} {
		b := noise(uint64(size), size)
		want := ownPieces(string(b))
		list, _ := impl.CutPieces(b)
		again, _ := impl.CutPieces(b)
		ruin(b, 0xa5)
		if !slices.Equal(list, want) {
			t.Errorf("the pieces of %d bytes change with them", size)
		}
		ruin(list, "ruined")
		if !slices.Equal(again, want) || string(b) != string(slices.Repeat([]byte{0xa5}, size)) {
			t.Errorf("the pieces of %d bytes are not their own", size)
		}
	}
}

func TestJoinedBytesAreNewMemory(t *testing.T) {
	for _, count := range []int{1, 2, 9, 64} {
		list := somePieces(count, 20)
		kept := slices.Clone(list)
		joined, _ := impl.JoinPieces(list)
		again, _ := impl.JoinPieces(list)
		want := string(joined)
		ruin(joined, 0xa5)
		if !slices.Equal(list, kept) || string(again) != want {
			t.Errorf("%d pieces change with what was joined", count)
		}
		ruin(list, "ruined")
		if string(again) != want {
			t.Errorf("what was joined of %d pieces changes with them", count)
		}
	}
}

func TestProofsAreNewMemory(t *testing.T) {
	for _, list := range proofLists() {
		for at := range list {
			what := fmt.Sprint("ProvePiece of ", len(list), " at ", at)
			kept, want := slices.Clone(list), ownProof(list, at)
			proof, _ := impl.ProvePiece(list, at)
			other, _ := impl.ProvePiece(list, at)
			ruin(list, "ruined")
			askPieces(t, what, proof, impl.OK, want, impl.OK)
			copy(list, kept)
			askApart(t, what, strconv.Itoa, proof, other)
			askPieces(t, what, list, impl.OK, kept, impl.OK)
		}
	}
}
