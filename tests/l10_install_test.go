package tests

import (
	"fmt"
	"math"
	"slices"
	"strings"
	"testing"

	"loop.example/g00292/impl"
)

func askInstalled(t *testing.T, what string, nodes int, s impl.Stable, pieces, proofs []string, want impl.Table, wantCode int) {
	t.Helper()
	got, code := impl.InstallTable(nodes, s, pieces, proofs)
	if tableText(got) != tableText(want) || code != wantCode {
		t.Errorf("InstallTable of %d, %.120s: %.200s %d, not %.200s %d", nodes, what, tableText(got), code, tableText(want), wantCode)
	}
}

// handed is a table's checkpoint with what is handed on of it.
type handed struct {
	nodes  int
	stable impl.Stable
	pieces []string
	proofs []string
}

// handedOf is voted for, cut and proved by the tests' own means.
func handedOf(nodes int, list []string) handed {
	return handed{nodes, voted(9, len(list), ownPiecesRoot(list), quorums(nodes)[0]...), list, ownProofs(list)}
}

func handedTable(nodes int, x impl.Table) handed {
	return handedOf(nodes, ownPieces(ownTableBytes(x)))
}

func (h handed) copied() handed {
	h.stable, h.pieces, h.proofs = copyStable(h.stable), slices.Clone(h.pieces), slices.Clone(h.proofs)
	return h
}

// askRefused asks for the code of what is handed on, something of it being changed.
func askRefused(t *testing.T, what string, h handed, code int, changes func(h *handed)) {
	t.Helper()
	h = h.copied()
	changes(&h)
	askInstalled(t, what, h.nodes, h.stable, h.pieces, h.proofs, impl.Table{}, code)
}

// someHanded are tables of 1 to 8 pieces with 1, 4 and 7 nodes.
func someHanded() []handed {
	var list []handed
	for _, nodes := range nodeCounts {
		for _, x := range append(someTables(), longestTable()) {
			list = append(list, handedTable(nodes, x))
		}
	}
	return list
}

// Promise 18: a table that a quorum voted for is taken piece by piece as it was.
func TestTablesAreTaken(t *testing.T) {
	for i, x := range append(someTables(), longestTable()) {
		b, _ := impl.TableBytes(x)
		pieces, _ := impl.CutPieces(b)
		proofs, _ := impl.ProofsOf(pieces)
		for _, nodes := range nodeCounts {
			for _, from := range quorums(nodes) {
				s, _ := impl.MakeStable(nodes, 300, x, from)
				askInstalled(t, fmt.Sprint("table ", i, " ", from), nodes, s, pieces, proofs, x, impl.OK)
			}
			h := handedTable(nodes, x)
			askInstalled(t, fmt.Sprint("table ", i, " by own means"), nodes, h.stable, h.pieces, h.proofs, x, impl.OK)
		}
	}
}

func TestTakenOfOtherNodes(t *testing.T) {
	for _, h := range someHanded() {
		for _, nodes := range noNodes() {
			askRefused(t, "no such number of nodes", h, impl.ErrRange, func(h *handed) { h.nodes = nodes })
		}
		for _, nodes := range nodeCounts {
			if nodes != h.nodes {
				askRefused(t, fmt.Sprint("as of ", nodes), h, impl.ErrSigned, func(h *handed) { h.nodes = nodes })
			}
		}
	}
}

func TestTakenOfOtherStables(t *testing.T) {
	for _, h := range someHanded() {
		changed := map[string]func(s *impl.Stable){
			"another Seq":     func(s *impl.Stable) { s.Seq++ },
			"no Seq":          func(s *impl.Stable) { s.Seq = -1 },
			"another Size":    func(s *impl.Stable) { s.Size++ },
			"no Size":         func(s *impl.Stable) { s.Size = 0 },
			"another Root":    func(s *impl.Stable) { s.Root = sha("other") },
			"no Root":         func(s *impl.Stable) { s.Root = "" },
			"a long Root":     func(s *impl.Stable) { s.Root = longText() },
			"no votes":        func(s *impl.Stable) { s.Votes = nil },
			"a vote too few":  func(s *impl.Stable) { s.Votes = s.Votes[1:] },
			"a vote too many": func(s *impl.Stable) { s.Votes = append(s.Votes, s.Votes[0]) },
			"a vote of nobody": func(s *impl.Stable) {
				s.Votes[0].From = 7
			},
			"another mark":   func(s *impl.Stable) { s.Votes[0].Mac = flip(s.Votes[0].Mac, 3) },
			"a long mark":    func(s *impl.Stable) { s.Votes[0].Mac = longText() },
			"very many":      func(s *impl.Stable) { s.Votes = slices.Repeat(s.Votes, impl.MaxList+1) },
			"nothing at all": func(s *impl.Stable) { *s = impl.Stable{} },
		}
		for what, change := range changed {
			askRefused(t, what, h, impl.ErrSigned, func(h *handed) { change(&h.stable) })
		}
	}
}

// Pieces that are none such, and pieces and proofs that are not as many as were voted for.
func TestTakenOfOtherCounts(t *testing.T) {
	for _, h := range someHanded() {
		size := len(h.pieces)
		askRefused(t, "no pieces", h, impl.ErrBad, func(h *handed) { h.pieces = nil })
		askRefused(t, "no proofs", h, impl.ErrBad, func(h *handed) { h.proofs = nil })
		askRefused(t, "nothing", h, impl.ErrBad, func(h *handed) { h.pieces, h.proofs = nil, []string{} })
		askRefused(t, "a piece fewer", h, impl.ErrBad, func(h *handed) { h.pieces = h.pieces[:size-1] })
		askRefused(t, "a proof fewer", h, impl.ErrBad, func(h *handed) { h.proofs = h.proofs[:size-1] })
		askRefused(t, "both fewer", h, impl.ErrBad, func(h *handed) { h.pieces, h.proofs = h.pieces[1:], h.proofs[1:] })
		askRefused(t, "a proof more", h, impl.ErrBad, func(h *handed) { h.proofs = append(h.proofs, h.proofs[0]) })
		askRefused(t, "an empty proof more", h, impl.ErrBad, func(h *handed) { h.proofs = append(h.proofs, "") })
		whole := strings.Repeat("p", 32)
		askRefused(t, "a piece more", h, impl.ErrBad, func(h *handed) { h.pieces = append([]string{whole}, h.pieces...) })
		askRefused(t, "both more", h, impl.ErrBad, func(h *handed) {
			h.pieces, h.proofs = append([]string{whole}, h.pieces...), append(h.proofs, h.proofs[0])
		})
		askRefused(t, "most pieces", h, impl.ErrBad, func(h *handed) { h.pieces = slices.Repeat([]string{whole}, impl.MaxList) })
		askRefused(t, "most proofs", h, impl.ErrBad, func(h *handed) { h.proofs = slices.Repeat([]string{""}, impl.MaxList) })
		for at := range h.pieces {
			for _, other := range []string{"", whole + "p", longText()} {
				askRefused(t, fmt.Sprint("piece ", at, " of ", len(other)), h, impl.ErrBad, func(h *handed) { h.pieces[at] = other })
			}
			if at < size-1 {
				askRefused(t, fmt.Sprint("a short piece ", at), h, impl.ErrBad, func(h *handed) { h.pieces[at] = h.pieces[at][1:] })
			}
		}
	}
}

func TestTakenLongLists(t *testing.T) {
	for _, h := range someHanded() {
		for _, text := range []string{"", strings.Repeat("p", 32), longText()} {
			for _, count := range []int{impl.MaxList + 1, 2 * impl.MaxList} {
				long := slices.Repeat([]string{text}, count)
				askRefused(t, "long pieces", h, impl.ErrLong, func(h *handed) { h.pieces = long })
				askRefused(t, "long proofs", h, impl.ErrLong, func(h *handed) { h.proofs = long })
				askRefused(t, "long pieces of no nodes", h, impl.ErrLong, func(h *handed) { h.pieces, h.nodes = long, 5 })
				askRefused(t, "long proofs of no nodes", h, impl.ErrLong, func(h *handed) { h.proofs, h.nodes = long, 5 })
				askRefused(t, "long proofs, not signed", h, impl.ErrLong, func(h *handed) { h.proofs, h.stable.Seq = long, 5 })
				askRefused(t, "long pieces, no proofs", h, impl.ErrLong, func(h *handed) { h.proofs, h.pieces = nil, long })
			}
		}
	}
}

// wrongTexts are texts that are no proof of any piece that is proved by this one.
func wrongTexts(proof string) []string {
	whole := strings.Repeat("h", 32)
	list := []string{
		proof + "x", "x" + proof, proof + whole, whole + proof, proof + whole[1:], whole[1:], whole[1:] + "gh", proof + whole + whole,
		strings.Repeat(whole, 20), strings.Repeat(whole, 21), strings.Repeat(whole, 20) + "x", strings.Repeat(whole, 64), strings.Repeat(whole, 2048), longText(),
	}
	if proof != "" {
		list = append(list, "", proof[:len(proof)-1], proof[1:], proof[32:], proof[:len(proof)-32], fmt.Sprintf("%x", proof))
	}
	return list
}

func TestTakenOfOtherProofs(t *testing.T) {
	for _, h := range someHanded() {
		for at, proof := range h.proofs {
			for _, text := range wrongTexts(proof) {
				askRefused(t, fmt.Sprintf("proof %d of %d bytes", at, len(text)), h, impl.ErrProof, func(h *handed) { h.proofs[at] = text })
			}
			for i := 0; i < len(proof); i += 13 {
				askRefused(t, fmt.Sprint("proof ", at, " changed at ", i), h, impl.ErrRoot, func(h *handed) { h.proofs[at] = flip(proof, i) })
			}
		}
	}
}

// So many hashes that a text may have them, but no proof of at most 64 pieces does.
func TestTakenOfTwentyHashes(t *testing.T) {
	whole := strings.Repeat("h", 32)
	for _, count := range []int{1, 2, 33, 64} {
		h := handedOf(4, somePieces(count, 5))
		for _, hashes := range []int{7, 19, 20, 21, 22, 40, impl.MaxList, impl.MaxList + 1} {
			askRefused(t, fmt.Sprint(hashes, " hashes"), h, impl.ErrProof, func(h *handed) { h.proofs[count-1] = strings.Repeat(whole, hashes) })
		}
	}
}

func TestTakenOfOtherPieces(t *testing.T) {
	for _, h := range someHanded() {
		for at, piece := range h.pieces {
			for i := range piece {
				askRefused(t, fmt.Sprint("piece ", at, " changed at ", i), h, impl.ErrRoot, func(h *handed) { h.pieces[at] = flip(piece, i) })
			}
			for other := range at {
				if len(h.pieces[other]) == len(piece) {
					askRefused(t, fmt.Sprint("pieces ", other, " and ", at, " exchanged"), h, impl.ErrRoot, func(h *handed) {
						h.pieces[at], h.pieces[other] = h.pieces[other], h.pieces[at]
					})
				}
			}
		}
		last := len(h.pieces) - 1
		if piece := h.pieces[last]; len(piece) < 32 {
			askRefused(t, "a longer last piece", h, impl.ErrRoot, func(h *handed) { h.pieces[last] = piece + "\x00" })
		}
		if piece := h.pieces[last]; len(piece) > 1 {
			askRefused(t, "a shorter last piece", h, impl.ErrRoot, func(h *handed) { h.pieces[last] = piece[:len(piece)-1] })
		}
	}
}

// A piece is proved by its own proof alone.
func TestTakenOfExchangedProofs(t *testing.T) {
	for _, count := range []int{2, 3, 5, 8, 9, 33, 64} {
		h := handedOf(4, somePieces(count, 5))
		for at := range count {
			for other := range at {
				code := impl.ErrRoot
				if len(h.proofs[at]) != len(h.proofs[other]) {
					code = impl.ErrProof
				}
				askRefused(t, fmt.Sprint("proofs ", other, " and ", at, " of ", count), h, code, func(h *handed) {
					h.proofs[at], h.proofs[other] = h.proofs[other], h.proofs[at]
				})
			}
		}
	}
	h := handedTable(4, longestTable())
	for at := 1; at < len(h.pieces); at++ {
		askRefused(t, "pieces with their proofs", h, impl.ErrRoot, func(h *handed) {
			if at == len(h.pieces)-1 {
				h.pieces[0] = "behind all others, of as many bytes"[:32]
				return
			}
			h.pieces[0], h.pieces[at] = h.pieces[at], h.pieces[0]
			h.proofs[0], h.proofs[at] = h.proofs[at], h.proofs[0]
		})
	}
}

// noTableBytes are bytes that can be cut, but are no right table's.
func noTableBytes() map[string]string {
	right := ownTableBytes(fullTable())
	list := map[string]string{
		"one byte": "p", "one whole piece": strings.Repeat("p", 32), "noughts": string(make([]byte, 100)), "the most bytes": strings.Repeat("p", 2048),
		"one byte more": right + "\x00", "one byte fewer": right[:len(right)-1], "one ahead": "\x00" + right, "two tables": right + right,
	}
	for i, x := range wrongTables() {
		list[fmt.Sprint("wrong table ", i)] = ownTableBytes(x)
	}
	for _, count := range []int{5, 60, 119} {
		list[fmt.Sprint(count, " locks")] = ownTableBytes(impl.Table{Next: 1, Locks: manyLocks(count)})
	}
	return list
}

func TestTakenOfNoTable(t *testing.T) {
	for what, text := range noTableBytes() {
		for _, nodes := range nodeCounts {
			h := handedOf(nodes, ownPieces(text))
			askStable(t, what, nodes, h.stable, true)
			askRefused(t, what, h, impl.ErrForm, func(h *handed) {})
			askRefused(t, what+", changed", h, impl.ErrRoot, func(h *handed) { h.pieces[0] = flip(h.pieces[0], 0) })
		}
	}
}

// Votes for another number of pieces: the way up may be the same, but the number is not.
func TestTakenOfAnotherNumber(t *testing.T) {
	for _, x := range append(someTables(), longestTable()) {
		h := handedTable(4, x)
		for size := 1; size <= 64; size++ {
			if size != len(h.pieces) {
				askRefused(t, fmt.Sprint(size, " voted for"), h, impl.ErrBad, func(h *handed) {
					h.stable = voted(9, size, h.stable.Root, 0, 1, 2)
				})
			}
		}
	}
	h := handedTable(4, longestTable())
	askRefused(t, "7 of 8 pieces", h, impl.ErrProof, func(h *handed) {
		h.stable = voted(9, 7, h.stable.Root, 0, 1, 2)
		h.pieces, h.proofs = h.pieces[:7], h.proofs[:7]
	})
}

// Piece by piece: the first one that has a fault tells the code, and of one piece the proof's length comes first.
func TestTakenFirstFault(t *testing.T) {
	lists := [][]string{somePieces(2, 5), somePieces(5, 32), somePieces(8, 1), somePieces(64, 7), ownPieces(ownTableBytes(longestTable()))}
	faults := []struct {
		code   int
		breaks func(h *handed, at int)
	}{
		{impl.ErrProof, func(h *handed, at int) { h.proofs[at] += "x" }},
		{impl.ErrProof, func(h *handed, at int) { h.proofs[at] += sha("one more") }},
		{impl.ErrProof, func(h *handed, at int) { h.proofs[at] = strings.Repeat("h", 32*21) }},
		{impl.ErrProof, func(h *handed, at int) { h.proofs[at] = h.proofs[at][32:] }},
		{impl.ErrRoot, func(h *handed, at int) { h.proofs[at] = flip(h.proofs[at], 31) }},
		{impl.ErrRoot, func(h *handed, at int) { h.pieces[at] = flip(h.pieces[at], 0) }},
	}
	for _, list := range lists {
		h := handedOf(7, list)
		for first := range list {
			for i, fault := range faults {
				askRefused(t, fmt.Sprint("fault ", i, " at ", first), h, fault.code, func(h *handed) { fault.breaks(h, first) })
				askRefused(t, fmt.Sprint("fault ", i, " of a changed piece at ", first), h, fault.code, func(h *handed) {
					h.pieces[first] = "c" + h.pieces[first][1:]
					fault.breaks(h, first)
				})
				for second := first + 1; second < len(list); second += 1 + len(list)/6 {
					for j, later := range faults {
						askRefused(t, fmt.Sprint("fault ", i, " at ", first, " and ", j, " at ", second), h, fault.code, func(h *handed) {
							later.breaks(h, second)
							fault.breaks(h, first)
						})
					}
				}
			}
		}
	}
}

// Each fault is told ahead of all that are named behind it.
func TestTakenCodesInTheirOrder(t *testing.T) {
	faults := []struct {
		code    int
		changes []func(h *handed)
	}{
		{impl.ErrLong, []func(h *handed){
			func(h *handed) { h.pieces = make([]string, impl.MaxList+1) },
			func(h *handed) { h.proofs = make([]string, impl.MaxList+1) },
		}},
		{impl.ErrRange, []func(h *handed){
			func(h *handed) { h.nodes = 0 },
			func(h *handed) { h.nodes = 5 },
			func(h *handed) { h.nodes = math.MinInt },
		}},
		{impl.ErrSigned, []func(h *handed){
			func(h *handed) { h.stable.Seq++ },
			func(h *handed) { h.stable.Size = 65 },
			func(h *handed) { h.stable.Votes = h.stable.Votes[1:] },
			func(h *handed) { h.stable = impl.Stable{} },
		}},
		{impl.ErrBad, []func(h *handed){
			func(h *handed) { h.pieces[0] = "" },
			func(h *handed) { h.pieces[len(h.pieces)-1] = longText() },
			func(h *handed) { h.pieces = append([]string{strings.Repeat("p", 32)}, h.pieces...) },
			func(h *handed) { h.proofs = append(h.proofs, "") },
		}},
		{impl.ErrProof, []func(h *handed){
			func(h *handed) { h.proofs[0] += "x" },
			func(h *handed) { h.proofs[0] += sha("one more") },
			func(h *handed) { h.proofs[0] = longText() },
		}},
		{impl.ErrRoot, []func(h *handed){
			func(h *handed) { h.pieces[0] = flip(h.pieces[0], 0) },
		}},
	}
	for _, list := range [][]string{{"p"}, somePieces(5, 5), somePieces(64, 32), ownPieces(ownTableBytes(fullTable()))} {
		for _, nodes := range nodeCounts {
			h := handedOf(nodes, list)
			for first, fault := range faults {
				for i, breaks := range fault.changes {
					askRefused(t, fmt.Sprint("fault ", first, i), h, fault.code, breaks)
					for _, later := range faults[first+1:] {
						for _, also := range later.changes {
							askRefused(t, fmt.Sprint("fault ", first, i, " ahead of ", later.code), h, fault.code, func(h *handed) { also(h); breaks(h) })
						}
					}
				}
			}
		}
	}
}
