package tests

import (
	"fmt"
	"slices"
	"testing"

	"loop.example/g00292/impl"
)

// drawChanged changes one or two things of a proved piece.
func drawChanged(d *drawn, p proved) proved {
	p.proof = slices.Clone(p.proof)
	for range 1 + d.below(2) {
		switch d.below(9) {
		case 0:
			p.piece = string(noise(uint64(d.below(60000)), d.below(36)))
		case 1:
			p.at = d.below(66) - 1
		case 2:
			p.size = d.below(67) - 1
		case 3:
			p.root = p.root[d.below(2):]
		case 4:
			p.root = sha(p.root)
		case 5:
			p.proof = append(p.proof, sha(p.piece))
		case 6:
			p.proof = p.proof[:d.below(len(p.proof)+1)]
		case 7:
			p.at, p.size = p.at+1, p.size+1
		default:
			if len(p.proof) > 0 {
				p.proof[d.below(len(p.proof))] = string(noise(uint64(d.below(60000)), 30+d.below(4)))
			}
		}
	}
	return p
}

// Promise 11, of bytes of every length and one more than can be cut.
func TestDrawnBytesAreCutJoinedAndProved(t *testing.T) {
	d := &drawn{seed: 9}
	for size := range mostCut + 2 {
		b := noise(uint64(3*size+1), size)
		want := ownPieces(string(b))
		if size > mostCut {
			askCut(t, b, nil, impl.ErrFull)
			continue
		}
		list, code := impl.CutPieces(b)
		askPieces(t, fmt.Sprintf("CutPieces of %d bytes", size), list, code, want, impl.OK)
		askJoined(t, fmt.Sprintf("%d bytes", size), list, string(b), impl.OK)
		askRoot(t, fmt.Sprintf("%d bytes", size), list, ownPiecesRoot(list))
		if size > 0 {
			for _, at := range []int{0, d.below(len(list)), d.below(len(list)), len(list) - 1} {
				askDrawnPiece(t, d, list, at)
			}
		}
	}
}

func askDrawnPiece(t *testing.T, d *drawn, list []string, at int) {
	t.Helper()
	p := provedAt(list, at)
	proof, code := impl.ProvePiece(list, at)
	askPieces(t, fmt.Sprint("ProvePiece of ", len(list), " at ", at), proof, code, p.proof, impl.OK)
	askChanged(t, "drawn", p, impl.OK, nothingChanged)
	for range 4 {
		q := drawChanged(d, p)
		askChanged(t, fmt.Sprintf("drawn and changed, %x", q), q, ownCheck(q.root, q.piece, q.at, q.size, q.proof), nothingChanged)
	}
}

// Drawn changes come to every code, so that the test above asks for each.
func TestDrawnChangesHaveEveryCode(t *testing.T) {
	d := &drawn{seed: 10}
	counts := map[int]int{}
	for range 400 {
		count := 1 + d.below(64)
		q := drawChanged(d, provedAt(somePieces(count, 1+d.below(32)), d.below(count)))
		counts[ownCheck(q.root, q.piece, q.at, q.size, q.proof)]++
	}
	for _, code := range []int{impl.OK, impl.ErrBad, impl.ErrRange, impl.ErrProof, impl.ErrRoot} {
		if counts[code] < 5 {
			t.Errorf("code %d but %d times", code, counts[code])
		}
	}
}

// drawTables are the tables of drawn runs of requests, beside some that were put together by hand.
func drawTables(d *drawn) []impl.Table {
	tables := someTables()
	for i := range 60 {
		list, times := drawRun(d, 3*i)
		if x, _, code := impl.RunRequests(list, times); code == impl.OK {
			tables = append(tables, x)
		}
	}
	return tables
}

// Promise 11: pieces of a table, each proved by itself, are put together to the same table again.
func TestPiecesOfTables(t *testing.T) {
	for i, x := range drawTables(&drawn{seed: 11}) {
		what := fmt.Sprint("table ", i)
		b, _ := impl.TableBytes(x)
		list, code := impl.CutPieces(b)
		askPieces(t, what, list, code, ownPieces(ownTableBytes(x)), impl.OK)
		root, _ := impl.PiecesRoot(list)
		var taken []string
		for at, piece := range list {
			proof, _ := impl.ProvePiece(list, at)
			askCheck(t, what, root, piece, at, len(list), proof, impl.OK)
			askCheck(t, what, root, flip(piece, at%len(piece)), at, len(list), proof, impl.ErrRoot)
			taken = append(taken, piece)
		}
		joined, code := impl.JoinPieces(taken)
		back, readCode := impl.ReadTable(joined)
		if code != impl.OK || readCode != impl.OK {
			t.Errorf("%s: %d %d", what, code, readCode)
		}
		askSameTable(t, what, back, x)
	}
}

// Roots of different bytes differ, also of such as begin alike, or have their pieces in another order.
func TestRootsTellBytesApart(t *testing.T) {
	seen := map[string]string{}
	ask := func(what string, list []string) {
		root, _ := impl.PiecesRoot(list)
		if other, known := seen[root]; known {
			t.Errorf("%s has the root of %s", what, other)
		}
		seen[root] = what
	}
	for size := range mostCut + 1 {
		ask(fmt.Sprint(size, " noughts"), ownPieces(string(make([]byte, size))))
	}
	list := somePieces(9, 32)
	ask("9 pieces", list)
	for i := range list {
		for j := range i {
			swapped := slices.Clone(list)
			swapped[i], swapped[j] = swapped[j], swapped[i]
			ask(fmt.Sprint("9 pieces, swapped ", i, j), swapped)
		}
	}
}
