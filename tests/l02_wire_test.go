package tests

import (
	"math"
	"slices"
	"strings"
	"testing"

	"loop.example/g00292/impl"
)

const mac = "MacOf8by"

var (
	requestKinds = []int{impl.LkAcquire, impl.LkRelease, impl.LkRenew, impl.LkQuery}
	messageKinds = []int{impl.PbPrePrepare, impl.PbPrepare, impl.PbCommit, impl.PbViewChange, impl.PbNewView}
)

func TestWireConstants(t *testing.T) {
	if impl.MaxOpName != 12 || impl.MaxBody != 20000 || impl.MacSize != 8 || impl.MaxNodes != 7 || impl.MaxView != 20 || impl.MaxSeq != 8 {
		t.Error("bounds")
	}
	if !slices.Equal(requestKinds, []int{1, 2, 3, 4}) || !slices.Equal(messageKinds, []int{1, 2, 3, 4, 5}) {
		t.Error("kinds")
	}
}

// rightRequest is a right request of that kind.
func rightRequest(kind int) impl.Request {
	r := impl.Request{Client: 7, Stamp: 300, Kind: kind, Name: "door_1"}
	if kind == impl.LkAcquire || kind == impl.LkRenew {
		r.Lease = 258
	}
	return r
}

// rightMessage is a right message of that kind.
func rightMessage(kind int) impl.Message {
	m := impl.Message{Kind: kind, View: 3, From: 2, Mac: mac}
	if kind <= impl.PbCommit {
		m.Seq, m.Digest = 5, impl.Hash([]byte("door"))
	}
	if kind == impl.PbPrePrepare || kind >= impl.PbViewChange {
		m.Body = "a body"
	}
	return m
}

// rightBatch is a right batch with so many readings.
func rightBatch(readings int) impl.Batch {
	x := impl.Batch{Request: rightRequest(impl.LkAcquire)}
	for from := range readings {
		x.Readings = append(x.Readings, impl.Reading{From: from, Value: 70000*from + 9, Mac: mac[from:] + mac[:from]})
	}
	return x
}

// edges are least and most, their neighbours, and the numbers at the ends of what an int holds.
func edges(least, most int) []int {
	return append(oddInts(), least-1, least, least+1, most-1, most, most+1, math.MinInt, math.MaxInt)
}

func askRequest(t *testing.T, r impl.Request, want bool) {
	t.Helper()
	if got := impl.RequestOK(r); got != want {
		t.Errorf("RequestOK(%.80v): %v", r, got)
	}
	b, code := impl.RequestBytes(r)
	if want && (code != impl.OK || len(b) != 7+len(r.Name)) || !want && (code != impl.ErrBad || b != nil) {
		t.Errorf("RequestBytes(%.80v): %d bytes, %d", r, len(b), code)
	}
}

func TestRequestNumbers(t *testing.T) {
	for _, kind := range requestKinds {
		askRequest(t, rightRequest(kind), true)
		for _, n := range edges(0, 255) {
			r := rightRequest(kind)
			r.Client = n
			askRequest(t, r, n >= 0 && n <= 255)
		}
		for _, n := range edges(1, 65535) {
			r := rightRequest(kind)
			r.Stamp = n
			askRequest(t, r, n >= 1 && n <= 65535)
		}
	}
}

func TestRequestLeases(t *testing.T) {
	leases := append(edges(1, 1000), 65535, 65536, 65537, 66536)
	for n := range 1100 {
		leases = append(leases, n)
	}
	for _, n := range leases {
		for _, kind := range []int{impl.LkAcquire, impl.LkRenew} {
			r := rightRequest(kind)
			r.Lease = n
			askRequest(t, r, n >= 1 && n <= 1000)
		}
		for _, kind := range []int{impl.LkRelease, impl.LkQuery} {
			r := rightRequest(kind)
			r.Lease = n
			askRequest(t, r, n == 0)
		}
	}
}

func TestRequestKinds(t *testing.T) {
	for _, n := range append(edges(1, 4), 2, 3, 5, 257, 258, 259, 260) {
		for _, lease := range []int{0, 1, 1000, 1001} {
			r := rightRequest(impl.LkQuery)
			r.Kind, r.Lease = n, lease
			long := (n == 1 || n == 3) && lease >= 1 && lease <= 1000
			none := (n == 2 || n == 4) && lease == 0
			askRequest(t, r, long || none)
		}
	}
	askRequest(t, impl.Request{}, false)
}

func TestRequestNames(t *testing.T) {
	for _, kind := range requestKinds {
		r := rightRequest(kind)
		for _, name := range []string{"a", "Z", "_", "_9", "lock", "a23456789_12", "____________"} {
			r.Name = name
			askRequest(t, r, true)
		}
		wrong := append(oddTexts(), "9", "9a", "a b", "a-b", "a\n", "a23456789_123", strings.Repeat("a", 40), "\u00e9", "a\u00e9", "\uff41", "a\xff", "a\x00", "abcdefghijk\u00e9")
		for _, name := range wrong {
			r.Name = name
			askRequest(t, r, impl.NameOK(name) && len(name) <= 12)
		}
		for size := range 60 {
			r.Name = strings.Repeat("x", size)
			askRequest(t, r, size >= 1 && size <= 12)
		}
	}
}

func TestRequestNameBytes(t *testing.T) {
	for c := range 256 {
		r := rightRequest(impl.LkRelease)
		r.Name = string([]byte{byte(c)})
		askRequest(t, r, isNameByte(c, true))
		r.Name = "door" + r.Name + "x"
		askRequest(t, r, isNameByte(c, false))
	}
}

func TestRequestBytesKnown(t *testing.T) {
	known := []struct {
		request impl.Request
		bytes   string
	}{
		{impl.Request{Client: 0, Stamp: 1, Kind: impl.LkQuery, Name: "a"}, "\x00\x00\x01\x04\x00\x00\x01a"},
		{impl.Request{Client: 255, Stamp: 65535, Kind: impl.LkAcquire, Lease: 1000, Name: "a23456789012"}, "\xff\xff\xff\x01\x03\xe8\x0ca23456789012"},
		{impl.Request{Client: 16, Stamp: 256, Kind: impl.LkRenew, Lease: 1, Name: "_Z"}, "\x10\x01\x00\x03\x00\x01\x02_Z"},
		{impl.Request{Client: 1, Stamp: 255, Kind: impl.LkRelease, Name: "x"}, "\x01\x00\xff\x02\x00\x00\x01x"},
	}
	for _, row := range known {
		if b, code := impl.RequestBytes(row.request); string(b) != row.bytes || code != impl.OK {
			t.Errorf("RequestBytes(%v): %q, %d", row.request, b, code)
		}
		if r, code := impl.ReadRequest([]byte(row.bytes)); r != row.request || code != impl.OK {
			t.Errorf("ReadRequest(%q): %v, %d", row.bytes, r, code)
		}
	}
}

func askBatch(t *testing.T, what string, x impl.Batch, want bool) {
	t.Helper()
	b, code := impl.BatchBytes(x)
	if want && (code != impl.OK || len(b) == 0) || !want && (code != impl.ErrBad || b != nil) {
		t.Errorf("BatchBytes, %s: %d bytes, %d", what, len(b), code)
	}
}

func TestBatchNull(t *testing.T) {
	for _, list := range [][]impl.Reading{nil, {}, make([]impl.Reading, 0, 8)} {
		if b, code := impl.BatchBytes(impl.Batch{Null: true, Readings: list}); string(b) != "\x00" || code != impl.OK {
			t.Errorf("BatchBytes of a Null one: %q, %d", b, code)
		}
	}
	if x, code := impl.ReadBatch([]byte{0}); !x.Null || x.Request != (impl.Request{}) || len(x.Readings) != 0 || code != impl.OK {
		t.Errorf("ReadBatch of a Null one: %v, %d", x, code)
	}
	for _, request := range []impl.Request{rightRequest(impl.LkQuery), {Client: 1}, {Client: -1}, {Stamp: 1}, {Kind: 1}, {Lease: 1}, {Name: "a"}, {Name: longText()}} {
		askBatch(t, "Null with a request", impl.Batch{Null: true, Request: request}, false)
	}
	for _, list := range [][]impl.Reading{{{}}, {{Mac: mac}}, rightBatch(7).Readings, make([]impl.Reading, impl.MaxList+1)} {
		askBatch(t, "Null with readings", impl.Batch{Null: true, Readings: list}, false)
	}
	askBatch(t, "nothing, but not Null", impl.Batch{}, false)
}

func TestBatchHowManyReadings(t *testing.T) {
	for n := range 8 {
		askBatch(t, "up to 7 readings", rightBatch(n), true)
	}
	x := rightBatch(7)
	for _, from := range []int{7, 6, 0, 8} {
		y := x
		y.Readings = append(slices.Clone(x.Readings), impl.Reading{From: from, Mac: mac})
		askBatch(t, "8 readings", y, false)
	}
	for _, n := range []int{8, 255, 256, 257, impl.MaxList, impl.MaxList + 1} {
		y := x
		y.Readings = make([]impl.Reading, n)
		for i := range y.Readings {
			y.Readings[i] = impl.Reading{From: i, Value: i, Mac: mac}
		}
		askBatch(t, "too many readings", y, false)
	}
}

func TestBatchReadingsRise(t *testing.T) {
	for a := range 7 {
		for b := range 7 {
			for c := range 7 {
				x := rightBatch(0)
				for _, from := range []int{a, b, c} {
					x.Readings = append(x.Readings, impl.Reading{From: from, Value: 100 - from, Mac: mac})
				}
				askBatch(t, "three readings", x, a < b && b < c)
			}
			x := rightBatch(0)
			x.Readings = []impl.Reading{{From: a, Value: 1, Mac: mac}, {From: b, Value: 2, Mac: mac}}
			askBatch(t, "two readings", x, a < b)
		}
	}
}

func TestBatchReadingFields(t *testing.T) {
	for at := range 3 {
		for _, n := range edges(0, 6) {
			x := rightBatch(3)
			x.Readings[at].From = n
			rising := []bool{n == 0, n == 1, n >= 2 && n <= 6}
			askBatch(t, "From", x, rising[at])
		}
		for _, n := range append(edges(0, 1000000000), 1<<32+5) {
			x := rightBatch(3)
			x.Readings[at].Value = n
			askBatch(t, "Value", x, n >= 0 && n <= 1000000000)
		}
		for _, text := range append(oddTexts(), "1234567", "12345678", "123456789", "\x00\x00\x00\x00\x00\x00\x00\x00", "\xff\xfe\xfd\xfc\xfb\xfa\xf9\xf8") {
			x := rightBatch(3)
			x.Readings[at].Mac = text
			askBatch(t, "Mac", x, len(text) == 8)
		}
	}
}

func TestBatchRequest(t *testing.T) {
	wrong := []impl.Request{
		{}, {Client: 256, Stamp: 1, Kind: 2, Name: "a"}, {Stamp: 0, Kind: 2, Name: "a"}, {Stamp: 1, Kind: 5, Name: "a"},
		{Stamp: 1, Kind: 2, Lease: 1, Name: "a"}, {Stamp: 1, Kind: 1, Name: "a"}, {Stamp: 1, Kind: 3, Lease: 1001, Name: "a"},
		{Stamp: 1, Kind: 4}, {Stamp: 1, Kind: 4, Name: "a23456789_123"}, {Stamp: 1, Kind: 4, Name: longText()},
	}
	for n := range 8 {
		for _, kind := range requestKinds {
			x := rightBatch(n)
			x.Request = rightRequest(kind)
			askBatch(t, "a right request", x, true)
		}
		for _, request := range wrong {
			x := rightBatch(n)
			x.Request = request
			askBatch(t, "a wrong request", x, false)
		}
	}
}

func TestBatchBytesKnown(t *testing.T) {
	request := impl.Request{Client: 1, Stamp: 2, Kind: impl.LkQuery, Name: "a"}
	told := "\x01\x00\x02\x04\x00\x00\x01a"
	known := []struct {
		readings []impl.Reading
		bytes    string
	}{
		{nil, "\x01" + told},
		{[]impl.Reading{{From: 6, Value: 1000000000, Mac: "\x00\x01\x02\x03\x04\x05\x06\xff"}}, "\x02\x06\x3b\x9a\xca\x00\x00\x01\x02\x03\x04\x05\x06\xff" + told},
		{[]impl.Reading{{From: 0, Value: 0, Mac: "abcdefgh"}, {From: 3, Value: 0x01020304, Mac: "ABCDEFGH"}}, "\x03\x00\x00\x00\x00\x00abcdefgh\x03\x01\x02\x03\x04ABCDEFGH" + told},
	}
	for _, row := range known {
		if b, code := impl.BatchBytes(impl.Batch{Request: request, Readings: row.readings}); string(b) != row.bytes || code != impl.OK {
			t.Errorf("BatchBytes of %d readings: %q, %d", len(row.readings), b, code)
		}
		if x, code := impl.ReadBatch([]byte(row.bytes)); x.Null || x.Request != request || !slices.Equal(x.Readings, row.readings) || code != impl.OK {
			t.Errorf("ReadBatch(%q): %v, %d", row.bytes, x, code)
		}
	}
	if b, _ := impl.BatchBytes(rightBatch(7)); len(b) != 1+7*13+13 || b[0] != 8 {
		t.Errorf("BatchBytes of 7 readings: %d bytes, %q", len(b), b)
	}
}

func askMessage(t *testing.T, m impl.Message, want bool) {
	t.Helper()
	if got := impl.MessageOK(m); got != want {
		t.Errorf("MessageOK of kind %d (%.80v): %v", m.Kind, m, got)
	}
	b, code := impl.MessageBytes(m)
	size := 7 + len(m.Digest) + len(m.Body) + 8
	if want && (code != impl.OK || len(b) != size) || !want && (code != impl.ErrBad || b != nil) {
		t.Errorf("MessageBytes of kind %d (%.80v): %d bytes, %d", m.Kind, m, len(b), code)
	}
}

func TestMessageNumbers(t *testing.T) {
	for _, kind := range messageKinds {
		askMessage(t, rightMessage(kind), true)
		for _, n := range edges(0, 20) {
			m := rightMessage(kind)
			m.View = n
			askMessage(t, m, n >= 0 && n <= 20)
		}
		for _, n := range edges(0, 6) {
			m := rightMessage(kind)
			m.From = n
			askMessage(t, m, n >= 0 && n <= 6)
		}
		for _, n := range append(edges(1, 8), 4) {
			m := rightMessage(kind)
			m.Seq = n
			askMessage(t, m, kind <= 3 && n >= 1 && n <= 8 || kind >= 4 && n == 0)
		}
	}
}

func TestMessageKinds(t *testing.T) {
	for _, n := range append(edges(1, 5), 2, 3, 4, 257, 260) {
		for _, like := range messageKinds {
			m := rightMessage(like)
			m.Kind = n
			alike := n == like || n == 2 && like == 3 || n == 3 && like == 2 || n == 4 && like == 5 || n == 5 && like == 4
			askMessage(t, m, alike)
		}
	}
	askMessage(t, impl.Message{}, false)
}

func TestMessageTexts(t *testing.T) {
	texts := append(oddTexts(), "1234567", "12345678", "123456789", strings.Repeat("b", 20000), strings.Repeat("b", 20001), strings.Repeat("b", 256), strings.Repeat("b", 288))
	for _, kind := range messageKinds {
		for _, text := range texts {
			m := rightMessage(kind)
			m.Digest = text
			askMessage(t, m, kind <= 3 && len(text) == 32 || kind >= 4 && text == "")
			m = rightMessage(kind)
			m.Mac = text
			askMessage(t, m, len(text) == 8)
			m = rightMessage(kind)
			m.Body = text
			right := len(text) <= 20000
			if kind == impl.PbPrePrepare {
				right = right && text != ""
			} else if kind <= impl.PbCommit {
				right = text == ""
			}
			askMessage(t, m, right)
		}
	}
}

func TestMessageBytesKnown(t *testing.T) {
	digest := strings.Repeat("\x00\xff", 16)
	big := strings.Repeat("\n", 20000)
	known := []struct {
		message impl.Message
		bytes   string
	}{
		{impl.Message{Kind: impl.PbPrePrepare, View: 20, Seq: 8, From: 6, Digest: digest, Body: big, Mac: mac}, "\x01\x14\x08\x06\x20" + digest + "\x4e\x20" + big + mac},
		{impl.Message{Kind: impl.PbPrepare, View: 0, Seq: 1, From: 0, Digest: digest, Mac: mac}, "\x02\x00\x01\x00\x20" + digest + "\x00\x00" + mac},
		{impl.Message{Kind: impl.PbCommit, View: 7, Seq: 3, From: 1, Digest: digest, Mac: mac}, "\x03\x07\x03\x01\x20" + digest + "\x00\x00" + mac},
		{impl.Message{Kind: impl.PbViewChange, View: 1, From: 4, Body: "\x00", Mac: mac}, "\x04\x01\x00\x04\x00\x00\x01\x00" + mac},
		{impl.Message{Kind: impl.PbNewView, View: 2, From: 5, Mac: mac}, "\x05\x02\x00\x05\x00\x00\x00" + mac},
	}
	for _, row := range known {
		if b, code := impl.MessageBytes(row.message); string(b) != row.bytes || code != impl.OK {
			t.Errorf("MessageBytes of kind %d: %.80q, %d", row.message.Kind, b, code)
		}
		if m, code := impl.ReadMessage([]byte(row.bytes)); m != row.message || code != impl.OK {
			t.Errorf("ReadMessage of kind %d: %.80v, %d", row.message.Kind, m, code)
		}
	}
}

func texts(count, size int) []string {
	list := make([]string, count)
	for i := range list {
		list[i] = string(noise(uint64(i), size))
	}
	return list
}

func TestListBytesKnown(t *testing.T) {
	known := []struct {
		list  []string
		bytes string
	}{
		{nil, "\x00"},
		{[]string{}, "\x00"},
		{[]string{""}, "\x01\x00\x00"},
		{[]string{"", ""}, "\x02\x00\x00\x00\x00"},
		{[]string{"\x00\xff", "\u00e9", "c"}, "\x03\x00\x02\x00\xff\x00\x02\xc3\xa9\x00\x01c"},
		{[]string{strings.Repeat("z", 258)}, "\x01\x01\x02" + strings.Repeat("z", 258)},
		{make([]string, 100), "\x64" + strings.Repeat("\x00", 200)},
	}
	for _, row := range known {
		if b, code := impl.ListBytes(row.list); string(b) != row.bytes || code != impl.OK {
			t.Errorf("ListBytes of %d: %.80q, %d", len(row.list), b, code)
		}
		if list, code := impl.ReadList([]byte(row.bytes)); !slices.Equal(list, row.list) || code != impl.OK {
			t.Errorf("ReadList(%.80q): %d, %d", row.bytes, len(list), code)
		}
	}
}

// fullList is a list of so many texts whose bytes are size in all.
func fullList(t *testing.T, count, size int) []string {
	t.Helper()
	left := size - 1 - 2*count
	list := make([]string, count)
	for i := range list {
		part := min(left, impl.MaxBody)
		list[i] = strings.Repeat("f", part)
		left -= part
	}
	if left != 0 {
		t.Fatal("no such list")
	}
	return list
}

func TestListBytesCodes(t *testing.T) {
	long := strings.Repeat("l", impl.MaxBody+1)
	most := long[:impl.MaxBody]
	full := []string{most, most, most, most}
	rows := []struct {
		what string
		list []string
		code int
	}{
		{"100 texts", texts(100, 653), impl.OK},
		{"100 texts, too much", texts(100, 654), impl.ErrFull},
		{"101 texts", make([]string, 101), impl.ErrBad},
		{"MaxList texts", make([]string, impl.MaxList), impl.ErrBad},
		{"a text more than MaxList", make([]string, impl.MaxList+1), impl.ErrLong},
		{"long texts, more than MaxList", slices.Repeat([]string{long}, impl.MaxList+1), impl.ErrLong},
		{"256 texts", make([]string, 256), impl.ErrBad},
		{"101 texts, too much", slices.Repeat([]string{most}, 101), impl.ErrBad},
		{"a text of MaxBody", []string{most}, impl.OK},
		{"a text of one more", []string{long}, impl.ErrBad},
		{"a text beyond MaxText", []string{longText()}, impl.ErrBad},
		{"a last text of one more", []string{"a", "", long}, impl.ErrBad},
		{"three of MaxBody", full[:3], impl.OK},
		{"four of MaxBody", full, impl.ErrFull},
		{"full ahead of a long one", append(slices.Clone(full), long), impl.ErrFull},
		{"full ahead of one beyond MaxText", append(slices.Clone(full), longText()), impl.ErrFull},
		{"a long one ahead of full", []string{most, most, long, most, most}, impl.ErrBad},
		{"a long one that makes it full", []string{most, most, most, long}, impl.ErrBad},
		{"a long one first", append([]string{long}, full...), impl.ErrBad},
		{"just MaxText in all", fullList(t, 4, impl.MaxText), impl.OK},
		{"one less in all", fullList(t, 4, impl.MaxText-1), impl.OK},
		{"one more in all", fullList(t, 4, impl.MaxText+1), impl.ErrFull},
		{"just MaxText of 100", fullList(t, 100, impl.MaxText), impl.OK},
		{"one more of 100", fullList(t, 100, impl.MaxText+1), impl.ErrFull},
		{"just MaxText and an empty text", append(fullList(t, 4, impl.MaxText), ""), impl.ErrFull},
		{"just MaxText and a long one", append(fullList(t, 4, impl.MaxText), long), impl.ErrBad},
	}
	for _, row := range rows {
		b, code := impl.ListBytes(row.list)
		if code != row.code || (code == impl.OK) != (b != nil) {
			t.Errorf("ListBytes, %s: %d bytes, %d, not %d", row.what, len(b), code, row.code)
		}
	}
}
