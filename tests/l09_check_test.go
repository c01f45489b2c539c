package tests

import (
	"fmt"
	"math"
	"slices"
	"strings"
	"testing"

	"loop.example/g00292/impl"
)

func askCheck(t *testing.T, what, root, piece string, at, size int, proof []string, want int) {
	t.Helper()
	if code := impl.CheckPiece(root, piece, at, size, proof); code != want {
		t.Errorf("CheckPiece, %.120s, %d of %d: %d, not %d", what, at, size, code, want)
	}
}

// ownCheck goes up turn by turn, from the piece to the root.
func ownCheck(root, piece string, at, size int, proof []string) int {
	noHash := func(h string) bool { return len(h) != 32 }
	switch {
	case len(root) > impl.MaxText || len(piece) > impl.MaxText || len(proof) > impl.MaxList:
		return impl.ErrLong
	case noHash(root) || slices.ContainsFunc(proof, noHash) || len(piece) > pieceSize:
		return impl.ErrBad
	case size < 1 || size > mostPieces || at < 0 || at >= size:
		return impl.ErrRange
	case len(proof) != len(ownTurns(at, size)):
		return impl.ErrProof
	}
	own := sha("piece", piece)
	for i, turn := range ownTurns(at, size) {
		if turn == 'l' {
			own = sha("node", own, proof[i])
		} else {
			own = sha("node", proof[i], own)
		}
	}
	if own != root {
		return impl.ErrRoot
	}
	return impl.OK
}

// proved is a piece with its proof under a root.
type proved struct {
	root, piece string
	at, size    int
	proof       []string
}

func provedAt(list []string, at int) proved {
	return proved{ownPiecesRoot(list), list[at], at, len(list), ownProof(list, at)}
}

// allProved are all pieces of the lists whose every piece is proved.
func allProved() []proved {
	var all []proved
	for _, list := range proofLists() {
		for at := range list {
			all = append(all, provedAt(list, at))
		}
	}
	return all
}

// askChanged asks for the code of a proved piece that something was changed of.
func askChanged(t *testing.T, what string, p proved, want int, changes func(p *proved)) {
	t.Helper()
	p.proof = slices.Clone(p.proof)
	changes(&p)
	askCheck(t, what, p.root, p.piece, p.at, p.size, p.proof, want)
}

func nothingChanged(*proved) {}

func TestProvedPieces(t *testing.T) {
	for _, p := range allProved() {
		askChanged(t, "as it is", p, impl.OK, nothingChanged)
	}
	whole := strings.Repeat("p", pieceSize)
	root := sha("piece" + whole)
	askCheck(t, "alone, no proof", root, whole, 0, 1, nil, impl.OK)
	askCheck(t, "alone, an empty proof", root, whole, 0, 1, []string{}, impl.OK)
}

// Whether a piece has the length that its place asks for is not asked: it leads to the root, or it does not.
func TestPiecesOfAnyLength(t *testing.T) {
	for size := range pieceSize + 1 {
		piece := strings.Repeat("s", size)
		beside := sha("piece" + "last")
		askCheck(t, fmt.Sprint(size, " bytes alone"), sha("piece"+piece), piece, 0, 1, nil, impl.OK)
		askCheck(t, fmt.Sprint(size, " bytes first"), sha("node"+sha("piece"+piece)+beside), piece, 0, 2, []string{beside}, impl.OK)
		askCheck(t, fmt.Sprint(size, " bytes last"), sha("node"+beside+sha("piece"+piece)), piece, 1, 2, []string{beside}, impl.OK)
	}
	for _, p := range allProved() {
		askChanged(t, "an empty piece", p, impl.ErrRoot, func(p *proved) { p.piece = "" })
	}
	for _, size := range []int{pieceSize + 1, 2 * pieceSize, impl.MaxText} {
		piece := strings.Repeat("s", size)
		askCheck(t, fmt.Sprint(size, " bytes"), sha("piece"+piece), piece, 0, 1, nil, impl.ErrBad)
	}
}

// noHashes are texts that are none, none of them longer than a text may be.
func noHashes(h string) []string {
	digits := fmt.Sprintf("%x", h)
	return []string{"", h[:1], h[:31], h + "x", h + h, digits, digits[:63], digits[:63] + "g", strings.ToUpper(digits), strings.Repeat("h", impl.MaxText)}
}

// otherHashes are texts of 32 bytes: whatever bytes they are, they are hashes, but others.
func otherHashes(h string) []string {
	digits := fmt.Sprintf("%x", h)
	return []string{flip(h, 0), flip(h, 31), strings.Repeat("\x00", 32), strings.Repeat("G", 32), digits[:32], strings.ToUpper(digits)[32:], sha(h)}
}

func TestOtherRoots(t *testing.T) {
	for _, p := range allProved() {
		for _, root := range otherHashes(p.root) {
			askChanged(t, "another root", p, impl.ErrRoot, func(p *proved) { p.root = root })
		}
		for _, root := range noHashes(p.root) {
			askChanged(t, "no root", p, impl.ErrBad, func(p *proved) { p.root = root })
		}
		askChanged(t, "a long root", p, impl.ErrLong, func(p *proved) { p.root = longText() })
	}
}

func TestOtherProofTexts(t *testing.T) {
	for _, p := range allProved() {
		for i := range p.proof {
			for _, h := range otherHashes(p.proof[i]) {
				askChanged(t, "another hash", p, impl.ErrRoot, func(p *proved) { p.proof[i] = h })
			}
			for _, text := range append(noHashes(p.proof[i]), longText()) {
				askChanged(t, "no hash", p, impl.ErrBad, func(p *proved) { p.proof[i] = text })
			}
		}
	}
}

func TestOtherPieces(t *testing.T) {
	for _, p := range allProved() {
		for i := range p.piece {
			askChanged(t, "a changed piece", p, impl.ErrRoot, func(p *proved) { p.piece = flip(p.piece, i) })
		}
		askChanged(t, "a shorter piece", p, impl.ErrRoot, func(p *proved) { p.piece = p.piece[1:] })
		askChanged(t, "33 bytes", p, impl.ErrBad, func(p *proved) { p.piece = strings.Repeat("s", 33) })
		askChanged(t, "a long piece", p, impl.ErrLong, func(p *proved) { p.piece = longText() })
	}
	for _, list := range proofLists() {
		for at := range list {
			for other, piece := range list {
				if other != at {
					askChanged(t, "a neighbour's piece", provedAt(list, at), impl.ErrRoot, func(p *proved) { p.piece = piece })
				}
			}
		}
	}
}

func TestOtherPlaces(t *testing.T) {
	for _, p := range allProved() {
		for at := range p.size {
			want := impl.ErrRoot
			if at == p.at {
				want = impl.OK
			} else if len(ownTurns(at, p.size)) != len(p.proof) {
				want = impl.ErrProof
			}
			askChanged(t, fmt.Sprint("at ", at), p, want, func(p *proved) { p.at = at })
		}
		for _, at := range []int{-1, p.size, p.size + 1, 64, math.MinInt, math.MaxInt, math.MinInt + p.at, p.at - 1<<32, p.at + 1<<32} {
			askChanged(t, fmt.Sprint("at ", at), p, impl.ErrRange, func(p *proved) { p.at = at })
		}
	}
}

// A root does not tell how many pieces it is of: with another size that has the same way up a proof holds.
func TestOtherSizes(t *testing.T) {
	for _, p := range allProved() {
		for size := 1; size <= mostPieces; size++ {
			ways, want := ownTurns(p.at, size), impl.ErrRoot
			if p.at >= size {
				want = impl.ErrRange
			} else if len(ways) != len(p.proof) {
				want = impl.ErrProof
			} else if ways == ownTurns(p.at, p.size) {
				want = impl.OK
			}
			askChanged(t, fmt.Sprint("size ", size), p, want, func(p *proved) { p.size = size })
		}
		for _, size := range []int{0, -1, 65, math.MinInt, math.MaxInt, p.size + 1<<32, p.size - 1<<32, math.MinInt + p.size} {
			askChanged(t, fmt.Sprint("size ", size), p, impl.ErrRange, func(p *proved) { p.size = size })
		}
	}
	p := provedAt(somePieces(3, 5), 0)
	askChanged(t, "the first of 3 as of 4", p, impl.OK, func(p *proved) { p.size = 4 })
	askChanged(t, "the first of 3 as of 2", p, impl.ErrProof, func(p *proved) { p.size = 2 })
	p = provedAt(somePieces(6, 5), 4)
	askChanged(t, "the fifth of 6 as of 7", p, impl.ErrProof, func(p *proved) { p.size = 7 })
	p = provedAt(somePieces(3, 5), 2)
	askChanged(t, "the third of 3 as the second of 2", p, impl.OK, func(p *proved) { p.at, p.size = 1, 2 })
	askChanged(t, "the third of 3 as the first of 2", p, impl.ErrRoot, func(p *proved) { p.at, p.size = 0, 2 })
}

func TestProofsOfOtherLengths(t *testing.T) {
	for _, p := range allProved() {
		for cut := range p.proof {
			askChanged(t, fmt.Sprint("cut to ", cut), p, impl.ErrProof, func(p *proved) { p.proof = p.proof[:cut] })
		}
		if len(p.proof) > 0 {
			askChanged(t, "without the first", p, impl.ErrProof, func(p *proved) { p.proof = p.proof[1:] })
			askChanged(t, "nil", p, impl.ErrProof, func(p *proved) { p.proof = nil })
			askChanged(t, "empty", p, impl.ErrProof, func(p *proved) { p.proof = []string{} })
		}
		for _, more := range []int{1, 2, 7, 64, impl.MaxList - len(p.proof)} {
			longer := append(slices.Clone(p.proof), slices.Repeat([]string{p.root}, more)...)
			askChanged(t, fmt.Sprint(more, " more"), p, impl.ErrProof, func(p *proved) { p.proof = longer })
		}
		askChanged(t, "one more ahead", p, impl.ErrProof, func(p *proved) { p.proof = append([]string{p.root}, p.proof...) })
	}
}

func TestProofsInOtherOrders(t *testing.T) {
	for _, p := range allProved() {
		for i := range p.proof {
			for j := range i {
				askChanged(t, fmt.Sprint("swapped ", i, j), p, impl.ErrRoot, func(p *proved) { p.proof[i], p.proof[j] = p.proof[j], p.proof[i] })
			}
		}
		if len(p.proof) > 1 {
			askChanged(t, "turned round", p, impl.ErrRoot, func(p *proved) { slices.Reverse(p.proof) })
		}
	}
}

func TestLongChecks(t *testing.T) {
	p := provedAt(somePieces(9, 9), 3)
	for _, h := range []string{p.root, "", longText()} {
		for _, count := range []int{impl.MaxList + 1, 2 * impl.MaxList} {
			proof := slices.Repeat([]string{h}, count)
			askChanged(t, "a long proof", p, impl.ErrLong, func(p *proved) { p.proof = proof })
		}
	}
	askChanged(t, "as many as a list may have", p, impl.ErrProof, func(p *proved) { p.proof = slices.Repeat([]string{p.root}, impl.MaxList) })
	askChanged(t, "as many, the last one none", p, impl.ErrBad, func(p *proved) { p.proof = append(slices.Repeat([]string{p.root}, impl.MaxList-1), "") })
}

// Each fault is told ahead of all that are named behind it.
func TestCheckCodesInTheirOrder(t *testing.T) {
	faults := []struct {
		code    int
		changes []func(p *proved)
	}{
		{impl.ErrLong, []func(p *proved){
			func(p *proved) { p.root = longText() },
			func(p *proved) { p.piece = longText() },
			func(p *proved) { p.proof = slices.Repeat(append(p.proof, p.root), impl.MaxList+1) },
		}},
		{impl.ErrBad, []func(p *proved){
			func(p *proved) { p.root = p.root[1:] },
			func(p *proved) { p.proof = append([]string{"short"}, p.proof...) },
			func(p *proved) { p.proof = append(p.proof, longText()) },
			func(p *proved) { p.piece = strings.Repeat("s", 33) },
		}},
		{impl.ErrRange, []func(p *proved){
			func(p *proved) { p.at = -1 },
			func(p *proved) { p.at = p.size },
			func(p *proved) { p.at = math.MinInt },
			func(p *proved) { p.size = 0 },
			func(p *proved) { p.size = 65 },
			func(p *proved) { p.at, p.size = math.MaxInt, math.MaxInt },
			func(p *proved) { p.size = math.MinInt },
		}},
		{impl.ErrProof, []func(p *proved){
			func(p *proved) { p.proof = append(p.proof, p.root) },
			func(p *proved) { p.proof = append([]string{p.root}, p.proof...) },
		}},
		{impl.ErrRoot, []func(p *proved){
			func(p *proved) { p.root = sha("other") },
			func(p *proved) { p.piece = "other" },
		}},
	}
	for _, p := range []proved{provedAt(somePieces(1, 4), 0), provedAt(somePieces(7, 4), 6), provedAt(somePieces(64, 32), 40)} {
		for first, fault := range faults {
			for i, breaks := range fault.changes {
				askChanged(t, fmt.Sprint("fault ", first, i), p, fault.code, breaks)
				for _, later := range faults[first+1:] {
					for _, also := range later.changes {
						askChanged(t, fmt.Sprint("fault ", first, i, " ahead of ", later.code), p, fault.code, func(p *proved) { also(p); breaks(p) })
					}
				}
			}
		}
	}
}
