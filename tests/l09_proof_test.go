package tests

import (
	"encoding/hex"
	"fmt"
	"strings"
	"testing"

	"loop.example/g00292/impl"
)

// rowsAbove has the pieces' own hashes as its row 0 and the root alone as its last one: pair by pair, and what is
// left over goes up as it is.
func rowsAbove(list []string) [][]string {
	var row []string
	for _, piece := range list {
		row = append(row, sha("piece", piece))
	}
	rows := [][]string{row}
	for len(row) > 1 {
		var above []string
		for at := 0; at+1 < len(row); at += 2 {
			above = append(above, sha("node", row[at], row[at+1]))
		}
		if len(row)%2 == 1 {
			above = append(above, row[len(row)-1])
		}
		rows, row = append(rows, above), above
	}
	return rows
}

func ownPiecesRoot(list []string) string {
	if len(list) == 0 {
		return sha("nothing")
	}
	rows := rowsAbove(list)
	return rows[len(rows)-1][0]
}

// ownProof gathers row by row what stands beside; nothing stands beside what is left over.
func ownProof(list []string, at int) []string {
	var proof []string
	for _, row := range rowsAbove(list) {
		if beside := at ^ 1; beside < len(row) {
			proof = append(proof, row[beside])
		}
		at /= 2
	}
	return proof
}

// ownTurns tells the way up from a place: l where it comes from the left, r from the right.
func ownTurns(at, size int) string {
	turns := ""
	for ; size > 1; size = (size + 1) / 2 {
		if at%2 == 1 {
			turns += "r"
		} else if at+1 < size {
			turns += "l"
		}
		at /= 2
	}
	return turns
}

func askRoot(t *testing.T, what string, list []string, want string) {
	t.Helper()
	got, code := impl.PiecesRoot(list)
	askText(t, "PiecesRoot, "+what, got, code, want, impl.OK)
}

// writtenRoot is the root of up to 9 pieces, written out by the document's words.
func writtenRoot(list []string) string {
	var p [9]string
	for i, piece := range list {
		p[i] = sha("piece" + piece)
	}
	node := func(left, right string) string { return sha("node" + left + right) }
	ofFour := func(at int) string { return node(node(p[at], p[at+1]), node(p[at+2], p[at+3])) }
	switch len(list) {
	case 0:
		return sha("nothing")
	case 1:
		return p[0]
	case 2:
		return node(p[0], p[1])
	case 3:
		return node(node(p[0], p[1]), p[2])
	case 4:
		return ofFour(0)
	case 5:
		return node(ofFour(0), p[4])
	case 6:
		return node(ofFour(0), node(p[4], p[5]))
	case 7:
		return node(ofFour(0), node(node(p[4], p[5]), p[6]))
	case 8:
		return node(ofFour(0), ofFour(4))
	}
	return node(node(ofFour(0), ofFour(4)), p[8])
}

func TestRootsWrittenOut(t *testing.T) {
	askRoot(t, "nil", nil, writtenRoot(nil))
	askRoot(t, "an empty list", []string{}, sha("nothing"))
	for count := 1; count <= 9; count++ {
		for _, last := range []int{1, 5, 31, 32} {
			list := somePieces(count, last)
			askRoot(t, fmt.Sprint(count, " pieces"), list, writtenRoot(list))
		}
	}
	alike := strings.Split(strings.Repeat(","+strings.Repeat("z", 32), 9)[1:], ",")
	for count := 1; count <= 9; count++ {
		askRoot(t, fmt.Sprint(count, " like pieces"), alike[:count], writtenRoot(alike[:count]))
	}
}

// Of 64 pieces the first k are 32, and so on: eight times eight, and these as eight pieces are.
func TestRootsOfMany(t *testing.T) {
	list := somePieces(64, 32)
	var row [8]string
	for i := range row {
		row[i] = writtenRoot(list[8*i : 8*i+8])
	}
	node := func(left, right string) string { return sha("node" + left + right) }
	ofFour := func(at int) string { return node(node(row[at], row[at+1]), node(row[at+2], row[at+3])) }
	askRoot(t, "64 pieces", list, node(ofFour(0), ofFour(4)))
	askRoot(t, "33 pieces", list[:33], node(ofFour(0), sha("piece"+list[32])))
	askRoot(t, "48 pieces", list[:48], node(ofFour(0), node(row[4], row[5])))
	askRoot(t, "25 pieces", list[:25], node(node(row[0], row[1]), node(row[2], sha("piece"+list[24]))))
	askRoot(t, "59 pieces", list[:59], node(ofFour(0), node(node(row[4], row[5]), node(row[6], writtenRoot(list[56:59])))))
	for count := 1; count <= 64; count++ {
		askRoot(t, fmt.Sprint(count, " pieces"), list[:count], ownPiecesRoot(list[:count]))
	}
}

func TestRootsKnown(t *testing.T) {
	digits := func(list []string) string {
		root, _ := impl.PiecesRoot(list)
		return hex.EncodeToString([]byte(root))
	}
	whole := strings.Repeat("p", 32)
	known := []struct {
		list []string
		root string
	}{
		{nil, "1785cfc3bc6ac7738e8b38cdccd1af12563c2b9070e07af336a1bf8c0f772b6a"},
		{[]string{"a"}, "a5cfb39ba730d213afe502923a00a5a4dabefb7d1c20688ee19bcda1f938864b"},
		{[]string{whole, whole, "a"}, "73afdcd72715fcf5a3c178c23d2c1b900cff10062aa4c1ae112f1a6e4328743f"},
	}
	for _, row := range known {
		if got := digits(row.list); got != row.root {
			t.Errorf("PiecesRoot of %d: %s", len(row.list), got)
		}
	}
}

// proofLists are the lists whose every piece is proved: of 1 to 9 pieces, of numbers around powers of 2, of 64.
func proofLists() [][]string {
	var lists [][]string
	for _, count := range []int{1, 2, 3, 4, 5, 6, 7, 8, 9, 15, 16, 17, 31, 32, 33, 63, 64} {
		lists = append(lists, somePieces(count, 1+count%pieceSize))
	}
	return lists
}

func TestProofsWrittenOut(t *testing.T) {
	list := somePieces(7, 3)
	var p [7]string
	for i, piece := range list {
		p[i] = sha("piece" + piece)
	}
	left := sha("node" + sha("node"+p[0]+p[1]) + sha("node"+p[2]+p[3]))
	right := sha("node" + sha("node"+p[4]+p[5]) + p[6])
	known := [][]string{
		{p[1], sha("node" + p[2] + p[3]), right},
		{p[0], sha("node" + p[2] + p[3]), right},
		{p[3], sha("node" + p[0] + p[1]), right},
		{p[2], sha("node" + p[0] + p[1]), right},
		{p[5], p[6], left},
		{p[4], p[6], left},
		{sha("node" + p[4] + p[5]), left},
	}
	for at, want := range known {
		got, code := impl.ProvePiece(list, at)
		askPieces(t, fmt.Sprint("ProvePiece of 7 at ", at), got, code, want, impl.OK)
	}
}

// Promise 11: each piece is proved, by the roots beside its way up.
func TestEveryPieceIsProved(t *testing.T) {
	for _, list := range proofLists() {
		root, _ := impl.PiecesRoot(list)
		for at, piece := range list {
			what := fmt.Sprint("ProvePiece of ", len(list), " at ", at)
			proof, code := impl.ProvePiece(list, at)
			askPieces(t, what, proof, code, ownProof(list, at), impl.OK)
			if len(proof) != len(ownTurns(at, len(list))) {
				t.Errorf("%s: %d roots", what, len(proof))
			}
			askCheck(t, what, root, piece, at, len(list), proof, impl.OK)
		}
	}
}

func TestProofsHaveTheirLengths(t *testing.T) {
	known := map[int][]int{
		1: {0}, 2: {1, 1}, 3: {2, 2, 1}, 4: {2, 2, 2, 2}, 5: {3, 3, 3, 3, 1}, 6: {3, 3, 3, 3, 2, 2}, 7: {3, 3, 3, 3, 3, 3, 2},
		8: {3, 3, 3, 3, 3, 3, 3, 3}, 9: {4, 4, 4, 4, 4, 4, 4, 4, 1},
	}
	for count, sizes := range known {
		for at, want := range sizes {
			if proof, code := impl.ProvePiece(somePieces(count, 9), at); len(proof) != want || code != impl.OK {
				t.Errorf("ProvePiece of %d at %d: %d roots, %d", count, at, len(proof), code)
			}
		}
	}
	for at := range 64 {
		if proof, code := impl.ProvePiece(somePieces(64, 32), at); len(proof) != 6 || code != impl.OK {
			t.Errorf("ProvePiece of 64 at %d: %d roots, %d", at, len(proof), code)
		}
	}
}

func TestProofRange(t *testing.T) {
	for _, list := range append(proofLists(), nil, []string{}) {
		for _, at := range edges(0, len(list)-1) {
			if at >= 0 && at < len(list) {
				continue
			}
			proof, code := impl.ProvePiece(list, at)
			askPieces(t, fmt.Sprint("ProvePiece of ", len(list), " at ", at), proof, code, nil, impl.ErrRange)
		}
	}
}
