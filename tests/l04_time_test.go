package tests

import (
	"fmt"
	"math"
	"math/big"
	"slices"
	"sort"
	"strings"
	"testing"

	"loop.example/g00292/impl"
)

const topReading = 1000000000

// ownFaults are the numbers of nodes that there may be, with their f.
var ownFaults = map[int]int{1: 0, 4: 1, 7: 2}

// faultCode is the code that a number of nodes asks for.
func faultCode(nodes int) int {
	if _, ok := ownFaults[nodes]; !ok {
		return impl.ErrRange
	}
	return impl.OK
}

// askNumber holds a number and its code against what is wanted.
func askNumber(t *testing.T, what string, got, code, want, wantCode int) {
	t.Helper()
	if got != want || code != wantCode {
		t.Errorf("%.160s: %d %d, not %d %d", what, got, code, want, wantCode)
	}
}

// askKept fails unless list and all that stands behind its end in its memory are as they were ahead of call.
func askKept[T comparable](t *testing.T, what string, list []T, behind T, call func([]T)) {
	t.Helper()
	memory := append(slices.Clone(list), slices.Repeat([]T{behind}, 64)...)
	ahead := slices.Clone(memory)
	call(memory[:len(list)])
	if !slices.Equal(memory, ahead) {
		t.Errorf("%s of %d writes into its argument or behind its end", what, len(list))
	}
}

func TestFaultsOf(t *testing.T) {
	for _, nodes := range append(edges(1, 7), 2, 3, 4, 5, 6, 9, 10, 13, -4, -7, 1<<32+4, 1<<32+7, math.MinInt+4, math.MaxInt-3) {
		got, code := impl.FaultsOf(nodes)
		askNumber(t, fmt.Sprint("FaultsOf ", nodes), got, code, ownFaults[nodes], faultCode(nodes))
	}
}

func TestMedianKnown(t *testing.T) {
	known := []struct {
		list   []int
		median int
	}{
		{[]int{7}, 7}, {[]int{0}, 0}, {[]int{-7}, -7}, {[]int{math.MinInt}, math.MinInt}, {[]int{math.MaxInt}, math.MaxInt},
		{[]int{1, 2, 3}, 2}, {[]int{3, 2, 1}, 2}, {[]int{2, 3, 1}, 2}, {[]int{2, 1, 3}, 2}, {[]int{3, 1, 2}, 2}, {[]int{1, 3, 2}, 2},
		{[]int{5, 5, 5}, 5}, {[]int{5, 1, 5}, 5}, {[]int{1, 5, 1}, 1}, {[]int{5, -1, 9}, 5}, {[]int{-3, -2, -1}, -2},
		{[]int{math.MaxInt, math.MinInt, 0}, 0}, {[]int{math.MaxInt, math.MinInt, math.MaxInt}, math.MaxInt},
		{[]int{math.MinInt, math.MaxInt, math.MinInt}, math.MinInt}, {[]int{math.MinInt, math.MaxInt, -1}, -1},
		{[]int{10, 2, 33, 4, 5}, 5}, {[]int{9, 8, 7, 6, 5, 4, 3}, 6},
	}
	for _, row := range known {
		got, code := impl.MedianOf(row.list)
		askNumber(t, fmt.Sprint("MedianOf ", row.list), got, code, row.median, impl.OK)
	}
}

// isMiddle tells whether less than half of a list are less than x, and less than half are more.
func isMiddle(list []int, x int) bool {
	less, more := 0, 0
	for _, other := range list {
		if other < x {
			less++
		}
		if other > x {
			more++
		}
	}
	return slices.Contains(list, x) && 2*less < len(list) && 2*more < len(list)
}

// orders are so many numbers in orders of many kinds.
func orders(size int) [][]int {
	rising, alike, few, wide := make([]int, size), make([]int, size), make([]int, size), make([]int, size)
	for i, x := range noise(uint64(size), size) {
		rising[i] = 3*i - size
		alike[i] = -9
		few[i] = int(x % 3)
		wide[i] = oddInts()[int(x)%len(oddInts())]
	}
	falling := slices.Clone(rising)
	slices.Reverse(falling)
	mixed := slices.Clone(rising)
	for i, x := range noise(uint64(size)+7, size) {
		j := int(x) % (i + 1)
		mixed[i], mixed[j] = mixed[j], mixed[i]
	}
	return [][]int{rising, falling, mixed, alike, few, wide}
}

func TestMedianLengths(t *testing.T) {
	for _, size := range []int{0, 1, 2, 3, 4, 5, 6, 7, 8, 9, 11, 12, 13, 31, 50, 51, 99, 100, 101, 102, 103, 104, 105, 255, 257, 1001, impl.MaxList - 1, impl.MaxList} {
		for _, list := range orders(size) {
			askKept(t, "MedianOf", list, 77, func(list []int) {
				got, code := impl.MedianOf(list)
				if size%2 == 0 || size > 101 {
					askNumber(t, fmt.Sprintf("MedianOf %d numbers", size), got, code, 0, impl.ErrBad)
				} else if code != impl.OK || !isMiddle(list, got) {
					t.Errorf("MedianOf %v: %d %d", list, got, code)
				}
			})
		}
	}
	for _, size := range []int{impl.MaxList + 1, impl.MaxList + 2, 3 * impl.MaxList} {
		got, code := impl.MedianOf(slices.Repeat([]int{5}, size))
		askNumber(t, fmt.Sprintf("MedianOf %d numbers", size), got, code, 0, impl.ErrLong)
	}
	got, code := impl.MedianOf(nil)
	askNumber(t, "MedianOf nil", got, code, 0, impl.ErrBad)
}

func ownMark(node int, under string) string {
	return sha(sha("node key", string([]byte{byte(node)})), under)[:8]
}

func ownReadingMark(from, value int) string {
	return ownMark(from, "clock"+string([]byte{byte(value >> 24), byte(value >> 16), byte(value >> 8), byte(value)}))
}

// reading is one of that node with its right mark.
func reading(from, value int) impl.Reading {
	return impl.Reading{From: from, Value: value, Mac: ownReadingMark(from, value)}
}

func TestReadingMacKnown(t *testing.T) {
	known := []struct {
		from, value int
		mark        string
	}{
		{2, 258, fmt.Sprintf("%x", sha(sha("node key\x02"), "clock\x00\x00\x01\x02"))},
		{6, topReading, fmt.Sprintf("%x", sha(sha("node key\x06"), "clock\x3b\x9a\xca\x00"))},
		{0, 0, fmt.Sprintf("%x", sha(sha("node key\x00"), "clock\x00\x00\x00\x00"))},
	}
	for _, row := range known {
		got, code := impl.ReadingMac(row.from, row.value)
		askText(t, fmt.Sprint("ReadingMac ", row.from, row.value), fmt.Sprintf("%x", got), code, row.mark[:16], impl.OK)
	}
}

func TestReadingMac(t *testing.T) {
	seen := map[string]int{}
	right := 0
	for _, from := range append(edges(0, 6), 2, 3, 4) {
		for _, value := range append(edges(0, topReading), 258, 65535, 65536, 1<<24, 1<<24-1, 1<<30-1) {
			mark, want := "", impl.ErrRange
			if from >= 0 && from <= 6 && value >= 0 && value <= topReading {
				mark, want = ownReadingMark(from, value), impl.OK
				seen[mark] = from<<32 + value
				right++
			}
			got, code := impl.ReadingMac(from, value)
			askText(t, fmt.Sprint("ReadingMac ", from, value), got, code, mark, want)
		}
	}
	pairs := map[int]int{}
	for _, pair := range seen {
		pairs[pair]++
	}
	if right == 0 || len(pairs) != len(seen) {
		t.Errorf("%d marks of %d readings", len(seen), len(pairs))
	}
}

// readingsOf are readings of these nodes, their values as they come.
func readingsOf(nodes []int, values []int) []impl.Reading {
	var list []impl.Reading
	for i, from := range nodes {
		list = append(list, reading(from, values[i%len(values)]))
	}
	return list
}

// quorums are all rising lists of 2f + 1 of the nodes.
func quorums(nodes int) [][]int {
	var all [][]int
	for set := range 1 << nodes {
		var list []int
		for node := range nodes {
			if set>>node&1 == 1 {
				list = append(list, node)
			}
		}
		if len(list) == 2*ownFaults[nodes]+1 {
			all = append(all, list)
		}
	}
	return all
}

func ownMedian(list []impl.Reading) int {
	values := make([]int, len(list))
	for i, x := range list {
		values[i] = x.Value
	}
	sort.Ints(values)
	return values[len(values)/2]
}

// askReadings holds ReadingsTime and AgreedTime to a time and a code, whatever was agreed on before.
func askReadings(t *testing.T, what string, nodes int, list []impl.Reading, want, wantCode int) {
	t.Helper()
	what = fmt.Sprint(what, " of ", nodes, " nodes, ", len(list), " readings")
	askKept(t, what, list, reading(6, 5), func(list []impl.Reading) {
		got, code := impl.ReadingsTime(nodes, list)
		askNumber(t, "ReadingsTime: "+what, got, code, want, wantCode)
		for _, before := range []int{math.MinInt, -1, 0, want - 1, want, want + 1, topReading, topReading + 1, math.MaxInt} {
			agreed := 0
			if wantCode == impl.OK {
				agreed = max(before, want)
			}
			got, code := impl.AgreedTime(before, nodes, list)
			askNumber(t, fmt.Sprint("AgreedTime ", before, ": ", what), got, code, agreed, wantCode)
		}
	})
}

func TestReadingsOfEveryQuorum(t *testing.T) {
	values := [][]int{
		{0}, {topReading}, {10, 90, 12, 50, 30}, {1, 2, 3, 4, 5}, {5, 4, 3, 2, 1}, {topReading, 0, topReading, 0, 1},
		{7, 7, 7, 7, 6}, {3, 3, 9, 3, 9}, {256, 255, 65536, 65535, 1 << 24}, {0, topReading, 1, topReading - 1, 2},
	}
	for nodes := range ownFaults {
		for _, from := range quorums(nodes) {
			for _, row := range values {
				list := readingsOf(from, row)
				askReadings(t, fmt.Sprint(from, row), nodes, list, ownMedian(list), impl.OK)
			}
		}
	}
}

func TestReadingsKnown(t *testing.T) {
	list := []impl.Reading{reading(0, 10), reading(2, 90), reading(3, 12)}
	askReadings(t, "10 90 12", 4, list, 12, impl.OK)
	askReadings(t, "41", 1, []impl.Reading{reading(0, 41)}, 41, impl.OK)
	list = []impl.Reading{reading(0, 50), reading(1, 40), reading(3, 10), reading(5, 30), reading(6, 20)}
	askReadings(t, "50 40 10 30 20", 7, list, 30, impl.OK)
}

func TestReadingsCount(t *testing.T) {
	for nodes, faults := range ownFaults {
		for count := range 9 {
			var list []impl.Reading
			for from := range count {
				list = append(list, reading(min(from, 6), 100+from))
			}
			want, code := 100+faults, impl.OK
			if count != 2*faults+1 {
				want, code = 0, impl.ErrSigned
			}
			askReadings(t, "in turn", nodes, list, want, code)
		}
		askReadings(t, "none", nodes, nil, 0, impl.ErrSigned)
		askReadings(t, "empty", nodes, []impl.Reading{}, 0, impl.ErrSigned)
		askReadings(t, "MaxList", nodes, make([]impl.Reading, impl.MaxList), 0, impl.ErrSigned)
	}
	askReadings(t, "an even one more", 7, readingsOf([]int{0, 1, 2, 3, 4, 5, 6}, []int{5}), 0, impl.ErrSigned)
}

func TestReadingsOrder(t *testing.T) {
	for nodes := range ownFaults {
		for _, from := range quorums(nodes) {
			for i := range from {
				for j := range i {
					swapped, twice, other := slices.Clone(from), slices.Clone(from), slices.Clone(from)
					swapped[i], swapped[j] = swapped[j], swapped[i]
					twice[i] = twice[j]
					other[j] = other[i]
					for _, bad := range [][]int{swapped, twice, other} {
						askReadings(t, fmt.Sprint(bad), nodes, readingsOf(bad, []int{5, 6, 7, 8, 9}), 0, impl.ErrSigned)
					}
				}
			}
		}
	}
}

// Nodes that there are not, each with the mark that it would have.
func TestReadingsOfOtherNodes(t *testing.T) {
	for nodes := range ownFaults {
		for _, from := range quorums(nodes) {
			for i := range from {
				for _, stranger := range append(edges(nodes, 6), 256, 256+from[i], 1<<32+from[i], from[i]-8) {
					if stranger >= 0 && stranger < nodes {
						continue
					}
					bad := slices.Clone(from)
					bad[i] = stranger
					askReadings(t, fmt.Sprint(bad), nodes, readingsOf(bad, []int{5, 6, 7, 8, 9}), 0, impl.ErrSigned)
				}
			}
		}
	}
}

func TestReadingsValues(t *testing.T) {
	for nodes := range ownFaults {
		from := quorums(nodes)[0]
		for i := range from {
			for _, value := range append(edges(0, topReading), 1<<32+5, 1<<32+6) {
				list := readingsOf(from, []int{5, 6, 7, 8, 9})
				list[i] = reading(from[i], value)
				want, code := 0, impl.ErrSigned
				if value >= 0 && value <= topReading {
					want, code = ownMedian(list), impl.OK
				}
				askReadings(t, fmt.Sprint("value ", value, " at ", i), nodes, list, want, code)
			}
		}
	}
}

// badMarks are marks that are not a reading's own.
func badMarks(x impl.Reading) []string {
	right := x.Mac
	marks := []string{
		"", right[:1], right[:7], right + "\x00", right + right, " " + right[1:], strings.Repeat("\x00", 8), longText(),
		ownReadingMark(x.From+1, x.Value), ownReadingMark(x.From, x.Value+1), ownReadingMark(x.From, x.Value^1<<31),
		ownMark(x.From, "clock"), ownMark(x.From, ""), sha("clock")[:8],
		sha(sha("node key", string([]byte{byte(x.From)})), "clock", string([]byte{0, 0, 0, byte(x.Value)}))[:9],
	}
	for at := range 64 {
		b := []byte(right)
		b[at/8] ^= 1 << (at % 8)
		marks = append(marks, string(b))
	}
	return marks
}

func TestReadingsMarks(t *testing.T) {
	for nodes := range ownFaults {
		for _, from := range quorums(nodes) {
			for i := range from {
				list := readingsOf(from, []int{5, 6, 7, 8, 9})
				for k, mark := range badMarks(list[i]) {
					bad := slices.Clone(list)
					bad[i].Mac = mark
					if got, code := impl.ReadingsTime(nodes, bad); got != 0 || code != impl.ErrSigned {
						t.Errorf("mark %d at %d of %v: %d %d", k, i, from, got, code)
					}
					if got, code := impl.AgreedTime(3, nodes, bad); got != 0 || code != impl.ErrSigned {
						t.Errorf("mark %d at %d of %v: %d %d", k, i, from, got, code)
					}
				}
			}
		}
	}
}

// ErrLong comes ahead of ErrRange, ErrRange ahead of ErrSigned.
func TestReadingsCodes(t *testing.T) {
	right := readingsOf([]int{0, 1, 2}, []int{5, 6, 7})
	wrong := []impl.Reading{{From: 9, Value: -1}}
	for _, nodes := range append(edges(1, 7), 2, 3, 4, 5, 6) {
		code := faultCode(nodes)
		askReadings(t, "too long", nodes, slices.Repeat(right, impl.MaxList), 0, impl.ErrLong)
		askReadings(t, "too long by one", nodes, make([]impl.Reading, impl.MaxList+1), 0, impl.ErrLong)
		if code == impl.OK {
			code = impl.ErrSigned
		}
		askReadings(t, "wrong", nodes, wrong, 0, code)
		askReadings(t, "none", nodes, nil, 0, code)
		if nodes != 4 {
			askReadings(t, "right of 4", nodes, right, 0, code)
		}
	}
}

// askBetween holds a time to the readings of those of from whose bit is not in liars.
func askBetween(t *testing.T, nodes int, from []int, values []int, liars int) {
	t.Helper()
	least, most := math.MaxInt, math.MinInt
	for i := range from {
		if liars>>i&1 == 0 {
			least, most = min(least, values[i]), max(most, values[i])
		}
	}
	for _, before := range []int{-1, least} {
		got, code := impl.AgreedTime(before, nodes, readingsOf(from, values))
		if code != impl.OK || got < least || got > most {
			t.Fatalf("%v tell %v, liars %b: %d %d", from, values, liars, got, code)
		}
	}
}

// Promise 5: whatever f of the readings tell, the time lies between those of the others.
func TestAgreedTimeBetweenHonest(t *testing.T) {
	told := []int{0, 40, 41, 42, topReading}
	for nodes, faults := range ownFaults {
		all := quorums(nodes)
		count := 2*faults + 1
		runs := 1
		for range count {
			runs *= len(told)
		}
		for run := range runs {
			values := make([]int, count)
			for i, rest := 0, run; i < count; i, rest = i+1, rest/len(told) {
				values[i] = told[rest%len(told)]
			}
			from := all[run%len(all)]
			for liars := range 1 << count {
				if bitsOf(liars) == faults {
					askBetween(t, nodes, from, values, liars)
				}
			}
		}
	}
}

func bitsOf(set int) int {
	return strings.Count(fmt.Sprintf("%b", set), "1")
}

func TestAddTimeKnown(t *testing.T) {
	const top, low = math.MaxInt, math.MinInt
	known := [][3]int{
		{0, 0, 0}, {1, 2, 3}, {2, 1, 3}, {0, 7, 7}, {7, 0, 7}, {-5, 3, 3}, {3, -5, 3}, {-5, -3, 0}, {-1, 0, 0},
		{top, 1, top}, {1, top, top}, {top - 1, 1, top}, {1, top - 1, top}, {top - 1, 2, top}, {top, 0, top}, {0, top, top},
		{top, -1, top}, {-1, top, top}, {top, top, top}, {top, low, top}, {low, top, top}, {low, low, 0}, {low, 5, 5}, {5, low, 5}, {low, -1, 0},
		{top/2 + 1, top / 2, top}, {top/2 + 1, top/2 + 1, top}, {top / 2, top / 2, top - 1},
	}
	for _, row := range known {
		if got := impl.AddTime(row[0], row[1]); got != row[2] {
			t.Errorf("AddTime %d %d: %d", row[0], row[1], got)
		}
	}
}

func TestAddTimeNeverWraps(t *testing.T) {
	top := big.NewInt(math.MaxInt)
	for _, a := range append(edges(0, math.MaxInt/2), 1000, topReading) {
		for _, b := range append(edges(0, math.MaxInt/2), 1000, topReading) {
			want := new(big.Int).Add(big.NewInt(int64(max(a, 0))), big.NewInt(int64(max(b, 0))))
			if want.Cmp(top) > 0 {
				want = top
			}
			if got := impl.AddTime(a, b); int64(got) != want.Int64() {
				t.Errorf("AddTime %d %d: %d", a, b, got)
			}
		}
	}
}
