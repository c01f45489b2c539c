package tests

import (
	"fmt"
	"slices"
	"strings"
	"testing"

	"loop.example/g00292/impl"
)

func ownStableOK(nodes int, s impl.Stable) bool {
	faults, known := ownFaults[nodes]
	if !known || s.Seq < 0 || s.Seq > topSeq || s.Size < 1 || s.Size > 64 || len(s.Root) != 32 || len(s.Votes) != 2*faults+1 {
		return false
	}
	last := -1
	for _, v := range s.Votes {
		if v.From <= last || v.From >= nodes || v.Mac != ownVote(v.From, s.Seq, s.Size, s.Root) {
			return false
		}
		last = v.From
	}
	return true
}

// ownInstalled tells the code that taking comes to.
func ownInstalled(h handed) int {
	text := strings.Join(h.pieces, "")
	switch _, known := ownFaults[h.nodes]; {
	case len(h.pieces) > impl.MaxList || len(h.proofs) > impl.MaxList:
		return impl.ErrLong
	case !known:
		return impl.ErrRange
	case !ownStableOK(h.nodes, h.stable):
		return impl.ErrSigned
	case !slices.Equal(ownPieces(text), h.pieces) || len(h.pieces) != h.stable.Size || len(h.proofs) != h.stable.Size:
		return impl.ErrBad
	}
	for at, proof := range h.proofs {
		if len(proof)%32 != 0 || len(proof)/32 > 20 {
			return impl.ErrProof
		}
		if code := ownCheck(h.stable.Root, h.pieces[at], at, h.stable.Size, ownPieces(proof)); code != impl.OK {
			return code
		}
	}
	if !rightTableBytes([]byte(text)) {
		return impl.ErrForm
	}
	return impl.OK
}

// drawQuorum is a drawn quorum of that many nodes.
func drawQuorum(d *drawn, nodes int) []int {
	all := quorums(nodes)
	return all[d.below(len(all))]
}

// drawHanded changes one or two things of what is handed on.
func drawHanded(d *drawn, h handed) handed {
	h = h.copied()
	for range 1 + d.below(2) {
		if d.below(3) == 0 {
			drawStable(d, &h)
		} else {
			drawParts(d, &h)
		}
	}
	return h
}

// drawStable changes the checkpoint: with right votes for what it says then, or with those that there were.
func drawStable(d *drawn, h *handed) {
	s := &h.stable
	switch d.below(8) {
	case 0:
		h.nodes = d.below(9) - 1
	case 1:
		s.Seq = []int{-1, s.Seq + 1, topSeq, topSeq + 1}[d.below(4)]
	case 2:
		s.Size = []int{0, s.Size - 1, s.Size + 1, 65}[d.below(4)]
	case 3:
		s.Root = []string{sha(s.Root), s.Root[min(1, len(s.Root)):], flip(s.Root+"x", d.below(len(s.Root)+1))}[d.below(3)]
	case 4:
		s.Votes = s.Votes[min(1, len(s.Votes)):]
	case 5:
		s.Votes = append(s.Votes, impl.Vote{From: d.below(9) - 1})
	case 6:
		if len(s.Votes) > 0 {
			v := &s.Votes[d.below(len(s.Votes))]
			v.From, v.Mac = d.below(8), ownVote(d.below(7), s.Seq, s.Size, s.Root)
		}
		return
	case 7:
		s.Root = ownPiecesRoot(h.pieces)
	}
	if _, known := ownFaults[h.nodes]; known && d.below(2) == 0 {
		*s = voted(s.Seq, s.Size, s.Root, drawQuorum(d, h.nodes)...)
	}
}

// drawParts changes pieces and proofs, or hands on something else altogether, rightly voted for.
func drawParts(d *drawn, h *handed) {
	if len(h.pieces) == 0 || len(h.proofs) == 0 {
		return
	}
	at, other, proof := d.below(len(h.pieces)), d.below(len(h.pieces)), d.below(len(h.proofs))
	switch d.below(11) {
	case 0:
		h.pieces[at] = flip(h.pieces[at]+"x", d.below(len(h.pieces[at])+1))
	case 1:
		h.pieces[at], h.pieces[other] = h.pieces[other], h.pieces[at]
	case 2:
		second := d.below(len(h.proofs))
		h.proofs[proof], h.proofs[second] = h.proofs[second], h.proofs[proof]
	case 3:
		h.proofs[proof] = h.proofs[proof][min(len(h.proofs[proof]), 1+d.below(40)):]
	case 4:
		h.proofs[proof] = strings.Repeat("h", 32*d.below(23))
	case 5:
		h.proofs[proof] += string(noise(uint64(at), []int{1, 32, 64}[d.below(3)]))
	case 6:
		h.pieces, h.proofs = h.pieces[1:], h.proofs[1:]
	case 7:
		h.proofs = h.proofs[:proof]
	case 8:
		h.pieces = append(h.pieces, string(noise(uint64(at), d.below(40))))
	case 9:
		if h.proofs[proof] != "" {
			h.proofs[proof] = flip(h.proofs[proof], d.below(len(h.proofs[proof])))
		}
	case 10:
		*h = handedOf(nodeCounts[d.below(3)], somePieces(1+d.below(64), 1+d.below(32)))
	}
}

// Promise 18, of drawn tables: made, proved and taken, and refused with something changed just where the document says.
func TestDrawnTablesAreTaken(t *testing.T) {
	d := &drawn{seed: 18}
	counts := map[int]int{}
	for i, x := range append(drawTables(d), longestTable()) {
		for _, nodes := range nodeCounts {
			from, seq := drawQuorum(d, nodes), d.below(topSeq+1)
			what := fmt.Sprint("drawn table ", i, " ", from)
			h := handed{nodes, ownStable(seq, x, from...), ownPieces(ownTableBytes(x)), nil}
			h.proofs = ownProofs(h.pieces)
			askMade(t, what, nodes, seq, x, from, h.stable, impl.OK)
			askStable(t, what, nodes, h.stable, true)
			askProofs(t, what, h.pieces, h.proofs, impl.OK)
			askInstalled(t, what, nodes, h.stable, h.pieces, h.proofs, x, impl.OK)
			for range 12 {
				g := drawHanded(d, h)
				code := ownInstalled(g)
				counts[code]++
				if got := impl.StableOK(g.nodes, g.stable); got != ownStableOK(g.nodes, g.stable) {
					t.Errorf("StableOK, %s, changed: %v %x", what, got, g)
				}
				if code == impl.OK {
					askInstalled(t, what+", not changed", g.nodes, g.stable, g.pieces, g.proofs, x, impl.OK)
				} else {
					askInstalled(t, fmt.Sprintf("%s, changed, %x", what, g), g.nodes, g.stable, g.pieces, g.proofs, impl.Table{}, code)
				}
			}
		}
	}
	for _, code := range []int{impl.OK, impl.ErrRange, impl.ErrSigned, impl.ErrBad, impl.ErrProof, impl.ErrRoot, impl.ErrForm} {
		if counts[code] < 20 {
			t.Errorf("code %d but %d times", code, counts[code])
		}
	}
}

// What f liars vote for is never right: they are no quorum, and can not mark in others' names.
func TestLiarsMakeNoCheckpoint(t *testing.T) {
	lie := ownPieces(ownTableBytes(impl.Table{Time: 1, Next: 2, Locks: []impl.Lock{lock("mine", 1, 9, topExpiry)}}))
	root := ownPiecesRoot(lie)
	for _, nodes := range nodeCounts {
		for _, from := range quorums(nodes) {
			liars := from[:ownFaults[nodes]]
			s := voted(9, len(lie), root, liars...)
			askInstalled(t, "liars alone", nodes, s, lie, ownProofs(lie), impl.Table{}, impl.ErrSigned)
			truth := handedTable(nodes, fullTable()).stable
			for _, honest := range from[len(liars):] {
				s.Votes = append(s.Votes, impl.Vote{From: honest, Mac: ownVote(honest, truth.Seq, truth.Size, truth.Root)})
			}
			askInstalled(t, "liars with votes for something else", nodes, s, lie, ownProofs(lie), impl.Table{}, impl.ErrSigned)
		}
	}
}

// What a log leads to is handed on to one who has none of it, and goes on there as it would have here.
func TestTablesOfLogsAreHandedOn(t *testing.T) {
	for _, nodes := range nodeCounts {
		x, _, code := impl.LogTable(nodes, []string{body(nodes, "a"), null, body(nodes, "b")})
		if code != impl.OK {
			t.Fatal(code)
		}
		s, _ := impl.MakeStable(nodes, 3, x, quorums(nodes)[0])
		b, _ := impl.TableBytes(x)
		pieces, _ := impl.CutPieces(b)
		proofs, _ := impl.ProofsOf(pieces)
		askInstalled(t, "a log's table", nodes, s, pieces, proofs, x, impl.OK)
		back, _ := impl.InstallTable(nodes, s, pieces, proofs)
		r := request(77, 9, impl.LkAcquire, 5, "a")
		here, told, _ := impl.ApplyRequest(x, x.Time+1, r)
		there, again, code := impl.ApplyRequest(back, x.Time+1, r)
		if told != again || code != impl.OK {
			t.Errorf("%v, there %v %d", told, again, code)
		}
		askSameTable(t, "one request later", there, here)
	}
}
