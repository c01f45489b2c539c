package tests

import (
	"fmt"
	"slices"
	"strings"
	"testing"

	"loop.example/g00292/impl"
)

const (
	pieceSize  = 32
	mostPieces = 64
	mostCut    = pieceSize * mostPieces
)

func TestPieceConstants(t *testing.T) {
	if impl.PieceSize != pieceSize || impl.MaxPieces != mostPieces {
		t.Error("bounds")
	}
}

// ownPieces cuts a text by the places of its bytes.
func ownPieces(text string) []string {
	list := make([]string, (len(text)+pieceSize-1)/pieceSize)
	for i := range len(text) {
		list[i/pieceSize] += text[i : i+1]
	}
	return list
}

// somePieces are so many pieces, whole ones but the last, which has that size.
func somePieces(count, last int) []string {
	return ownPieces(string(noise(uint64(100*count+last), pieceSize*(count-1)+last)))
}

// askPieces holds a list and its code against what is wanted; nil and empty lists are the same.
func askPieces(t *testing.T, what string, got []string, code int, want []string, wantCode int) {
	t.Helper()
	if !slices.Equal(got, want) || code != wantCode {
		t.Errorf("%.120s: %x %d, not %x %d", what, got, code, want, wantCode)
	}
}

func askCut(t *testing.T, b []byte, want []string, wantCode int) {
	t.Helper()
	got, code := impl.CutPieces(b)
	askPieces(t, fmt.Sprintf("CutPieces of %d bytes", len(b)), got, code, want, wantCode)
}

func askJoined(t *testing.T, what string, list []string, want string, wantCode int) {
	t.Helper()
	got, code := impl.JoinPieces(list)
	askText(t, "JoinPieces, "+what, string(got), code, want, wantCode)
}

func TestCutKnown(t *testing.T) {
	const first, second = "abcdefghijklmnopqrstuvwxyz012345", "ABCDEFGHIJKLMNOPQRSTUVWXYZ678901"
	known := map[string][]string{
		"":                      nil,
		"a":                     {"a"},
		first[:31]:              {first[:31]},
		first:                   {first},
		first + "\x00":          {first, "\x00"},
		first + second[:31]:     {first, second[:31]},
		first + second:          {first, second},
		first + second + "\xff": {first, second, "\xff"},
		first + first + first:   {first, first, first},
	}
	for text, want := range known {
		askCut(t, []byte(text), want, impl.OK)
		askJoined(t, fmt.Sprintf("%d bytes", len(text)), want, text, impl.OK)
	}
	askCut(t, nil, nil, impl.OK)
	askCut(t, []byte{}, nil, impl.OK)
}

func TestCutLengths(t *testing.T) {
	for _, size := range []int{1, 31, 32, 33, 63, 64, 65, 95, 96, 97, mostCut - 32, mostCut - 31, mostCut - 1, mostCut} {
		b := noise(uint64(size), size)
		askCut(t, b, ownPieces(string(b)), impl.OK)
		list, _ := impl.CutPieces(b)
		if want := (size + 31) / 32; len(list) != want || len(list[want-1]) != (size+31)%32+1 {
			t.Errorf("%d bytes: %d pieces, the last one of %d", size, len(list), len(list[len(list)-1]))
		}
	}
	for _, size := range []int{mostCut + 1, mostCut + 32, 2 * mostCut, impl.MaxText - 1, impl.MaxText} {
		askCut(t, noise(uint64(size), size), nil, impl.ErrFull)
	}
	for _, size := range []int{impl.MaxText + 1, impl.MaxText + 32, 4 * impl.MaxText} {
		askCut(t, make([]byte, size), nil, impl.ErrLong)
	}
}

// Promise 11: what was cut is put together again.
func TestEveryLengthIsJoinedAgain(t *testing.T) {
	for size := range mostCut + 1 {
		text := string(noise(uint64(size), size))
		list, code := impl.CutPieces([]byte(text))
		askPieces(t, fmt.Sprintf("CutPieces of %d bytes", size), list, code, ownPieces(text), impl.OK)
		askJoined(t, fmt.Sprintf("%d bytes", size), list, text, impl.OK)
	}
}

// What is joined is cut into the same pieces again.
func TestEveryListIsCutAgain(t *testing.T) {
	for count := 1; count <= mostPieces; count++ {
		for last := 1; last <= pieceSize; last++ {
			list := somePieces(count, last)
			b, code := impl.JoinPieces(list)
			if code != impl.OK || len(b) != pieceSize*(count-1)+last {
				t.Fatalf("JoinPieces of %d, the last one of %d: %d bytes, %d", count, last, len(b), code)
			}
			askCut(t, b, list, impl.OK)
		}
	}
}

func TestJoinNone(t *testing.T) {
	askJoined(t, "nil", nil, "", impl.OK)
	askJoined(t, "an empty list", []string{}, "", impl.OK)
}

// wrongPieces are lists that are no pieces of anything, none of them longer than a list may be.
func wrongPieces() map[string][]string {
	whole := strings.Repeat("p", pieceSize)
	lists := map[string][]string{
		"an empty piece alone":       {""},
		"empty pieces alone":         {"", ""},
		"65 pieces":                  slices.Repeat([]string{whole}, mostPieces+1),
		"65 pieces, a short last":    append(slices.Repeat([]string{whole}, mostPieces), "p"),
		"66 pieces":                  slices.Repeat([]string{whole}, mostPieces+2),
		"as many as a list may have": slices.Repeat([]string{whole}, impl.MaxList),
		"64 pieces, one more empty":  append(slices.Repeat([]string{whole}, mostPieces), ""),
	}
	for _, count := range []int{1, 2, 3, 5, 63, 64} {
		for _, at := range []int{0, 1, count / 2, count - 2, count - 1} {
			if at < 0 || at >= count {
				continue
			}
			for _, size := range []int{0, 1, 16, 31, 33, 64, impl.MaxText, impl.MaxText + 1} {
				if at == count-1 && size > 0 && size <= pieceSize {
					continue
				}
				list := somePieces(count, 7)
				list[at] = strings.Repeat("w", size)
				lists[fmt.Sprintf("%d bytes at %d of %d", size, at, count)] = list
			}
		}
	}
	return lists
}

func TestWrongPieces(t *testing.T) {
	for what, list := range wrongPieces() {
		askJoined(t, what, list, "", impl.ErrBad)
		root, code := impl.PiecesRoot(list)
		askText(t, "PiecesRoot, "+what, root, code, "", impl.ErrBad)
		for _, at := range edges(0, len(list)-1) {
			proof, code := impl.ProvePiece(list, at)
			askPieces(t, fmt.Sprint("ProvePiece at ", at, ", ", what), proof, code, nil, impl.ErrBad)
		}
	}
}

func TestLongLists(t *testing.T) {
	for _, piece := range []string{"", "p", strings.Repeat("p", pieceSize), longText()} {
		for _, count := range []int{impl.MaxList + 1, 2 * impl.MaxList} {
			list := slices.Repeat([]string{piece}, count)
			what := fmt.Sprintf("%d of %d bytes", count, len(piece))
			askJoined(t, what, list, "", impl.ErrLong)
			root, code := impl.PiecesRoot(list)
			askText(t, "PiecesRoot, "+what, root, code, "", impl.ErrLong)
			for _, at := range edges(0, count-1) {
				proof, code := impl.ProvePiece(list, at)
				askPieces(t, fmt.Sprint("ProvePiece at ", at, ", ", what), proof, code, nil, impl.ErrLong)
			}
		}
	}
}
