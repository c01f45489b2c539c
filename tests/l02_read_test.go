package tests

import (
	"bytes"
	"encoding/binary"
	"reflect"
	"slices"
	"strings"
	"testing"

	"loop.example/g00292/impl"
)

// rightRequestBytes and its like below tell, by the document's words on bytes alone, whether bytes are just those of a right thing.
func rightRequestBytes(b []byte) bool {
	if len(b) < 7 || len(b) != 7+int(b[6]) || len(b) > 19 {
		return false
	}
	for i, c := range b[7:] {
		if !isNameByte(int(c), i == 0) {
			return false
		}
	}
	stamp, lease := binary.BigEndian.Uint16(b[1:]), binary.BigEndian.Uint16(b[4:])
	long := b[3] == 1 || b[3] == 3
	none := b[3] == 2 || b[3] == 4
	return len(b) > 7 && stamp > 0 && (long && lease >= 1 && lease <= 1000 || none && lease == 0)
}

func rightBatchBytes(b []byte) bool {
	if len(b) == 0 || b[0] == 0 {
		return len(b) == 1
	}
	count := int(b[0]) - 1
	if count > 7 || len(b) < 1+13*count {
		return false
	}
	last := -1
	for i := range count {
		reading := b[1+13*i:]
		from := int(reading[0])
		if from <= last || from > 6 || binary.BigEndian.Uint32(reading[1:]) > 1000000000 {
			return false
		}
		last = from
	}
	return rightRequestBytes(b[1+13*count:])
}

func rightMessageBytes(b []byte) bool {
	if len(b) < 15 || b[1] > 20 || b[3] > 6 {
		return false
	}
	digest := int(b[4])
	if len(b) < 15+digest {
		return false
	}
	body := int(binary.BigEndian.Uint16(b[5+digest:]))
	if body > 20000 || len(b) != 15+digest+body {
		return false
	}
	placed := b[2] >= 1 && b[2] <= 8 && digest == 32
	switch b[0] {
	case 1:
		return placed && body > 0
	case 2, 3:
		return placed && body == 0
	case 4, 5:
		return b[2] == 0 && digest == 0
	}
	return false
}

func rightListBytes(b []byte) bool {
	if len(b) == 0 || b[0] > 100 {
		return false
	}
	rest := b[1:]
	for range b[0] {
		if len(rest) < 2 {
			return false
		}
		size := int(binary.BigEndian.Uint16(rest))
		if size > 20000 || len(rest) < 2+size {
			return false
		}
		rest = rest[2+size:]
	}
	return len(rest) == 0
}

// wirePart is a pair of calls that tell a thing's bytes and read them, and good bytes of such things.
type wirePart struct {
	name  string
	goods [][]byte
	right func([]byte) bool
	// read tells the bytes of what is read, what is read, and the code.
	read func([]byte) ([]byte, any, int)
	zero any
}

func partOf[T any](name string, tell func(T) ([]byte, int), read func([]byte) (T, int), right func([]byte) bool, things ...T) wirePart {
	var zero T
	part := wirePart{name: name, right: right, zero: zero}
	for _, x := range things {
		b, code := tell(x)
		if code != impl.OK {
			panic(name + ": a thing that is not right: " + impl.CodeWord(code))
		}
		part.goods = append(part.goods, b)
	}
	part.read = func(b []byte) ([]byte, any, int) {
		x, code := read(b)
		if code != impl.OK {
			return nil, x, code
		}
		back, code := tell(x)
		return back, x, code
	}
	return part
}

func wireParts() []wirePart {
	var requests []impl.Request
	for _, kind := range requestKinds {
		requests = append(requests, rightRequest(kind))
	}
	requests = append(requests, impl.Request{Stamp: 1, Kind: impl.LkQuery, Name: "a"}, impl.Request{Client: 255, Stamp: 65535, Kind: impl.LkRenew, Lease: 1000, Name: "a23456789_12"})
	batches := []impl.Batch{{Null: true}}
	for n := range 8 {
		batches = append(batches, rightBatch(n))
	}
	var messages []impl.Message
	for _, kind := range messageKinds {
		messages = append(messages, rightMessage(kind))
	}
	messages = append(messages, impl.Message{Kind: impl.PbNewView, Mac: mac})
	lists := [][]string{nil, {""}, {"a"}, {"", "bc", "\x00\x01\x02"}, texts(5, 9), make([]string, 100)}
	return []wirePart{
		partOf("Request", impl.RequestBytes, impl.ReadRequest, rightRequestBytes, requests...),
		partOf("Batch", impl.BatchBytes, impl.ReadBatch, rightBatchBytes, batches...),
		partOf("Message", impl.MessageBytes, impl.ReadMessage, rightMessageBytes, messages...),
		partOf("List", impl.ListBytes, impl.ReadList, rightListBytes, lists...),
		tablePart(),
		certPart(),
	}
}

// ask fails unless b is read just if it is right, and what is read has just these bytes.
func (p wirePart) ask(t *testing.T, b []byte) {
	t.Helper()
	back, x, code := p.read(b)
	if p.right(b) {
		if code != impl.OK || !bytes.Equal(back, b) {
			t.Errorf("Read%s of %d bytes, %.60q: %d, told again as %.60q", p.name, len(b), b, code, back)
		}
	} else if code != impl.ErrForm || !reflect.DeepEqual(x, p.zero) {
		t.Errorf("Read%s of %d wrong bytes, %.60q: %d, %.80v", p.name, len(b), b, code, x)
	}
}

// manyRequests are right requests, each field at its bounds and where its bytes carry over.
func manyRequests() []impl.Request {
	var list []impl.Request
	for _, kind := range requestKinds {
		for _, client := range []int{0, 1, 127, 128, 255} {
			for _, stamp := range []int{1, 255, 256, 257, 65535} {
				for _, lease := range []int{0, 1, 255, 256, 999, 1000} {
					r := impl.Request{Client: client, Stamp: stamp, Kind: kind, Lease: lease, Name: "n" + strings.Repeat("0", stamp%12)}
					if (lease > 0) == (kind == impl.LkAcquire || kind == impl.LkRenew) {
						list = append(list, r)
					}
				}
			}
		}
	}
	return list
}

// Promise 3.
func TestRequestsAndBatchesAreReadBack(t *testing.T) {
	for i, r := range manyRequests() {
		b, _ := impl.RequestBytes(r)
		if back, code := impl.ReadRequest(b); back != r || code != impl.OK {
			t.Errorf("%v is read back as %v, %d", r, back, code)
		}
		readings := rightBatch(i % 8).Readings
		b, _ = impl.BatchBytes(impl.Batch{Request: r, Readings: readings})
		if back, code := impl.ReadBatch(b); back.Null || back.Request != r || !slices.Equal(back.Readings, readings) || code != impl.OK {
			t.Errorf("a batch of %v is read back as %v, %d", r, back, code)
		}
	}
}

// Promise 3.
func TestMessagesAreReadBack(t *testing.T) {
	bodies := map[int][]string{
		impl.PbPrePrepare: {"b", string(noise(4, 255)), string(noise(4, 256)), string(noise(4, 20000))},
		impl.PbPrepare:    {""},
		impl.PbCommit:     {""},
		impl.PbViewChange: {"", "v", string(noise(5, 20000))},
		impl.PbNewView:    {"", "n", string(noise(6, 19999))},
	}
	for kind, list := range bodies {
		for view := range 21 {
			for _, body := range list {
				m := rightMessage(kind)
				m.View, m.From, m.Body, m.Mac = view, view%7, body, string(noise(uint64(view), 8))
				b, _ := impl.MessageBytes(m)
				if back, code := impl.ReadMessage(b); back != m || code != impl.OK {
					t.Errorf("a message of kind %d is read back as %.80v, %d", kind, back, code)
				}
			}
		}
	}
}

// Promise 3.
func TestListsAreReadBack(t *testing.T) {
	for _, list := range [][]string{nil, texts(1, 0), texts(1, 20000), texts(3, 20000), texts(100, 0), texts(100, 653), texts(7, 257), fullList(t, 50, impl.MaxText)} {
		b, _ := impl.ListBytes(list)
		if back, code := impl.ReadList(b); !slices.Equal(back, list) || code != impl.OK {
			t.Errorf("a list of %d is read back as one of %d, %d", len(list), len(back), code)
		}
	}
}

// Promise 3: bytes that are not just a right thing's are not read, here and below.
func TestBytesCutAtEveryPlace(t *testing.T) {
	for _, part := range wireParts() {
		for _, good := range part.goods {
			for at := range len(good) + 1 {
				part.ask(t, good[:at])
				part.ask(t, good[at:])
				part.ask(t, slices.Delete(slices.Clone(good), at, min(at+1, len(good))))
			}
		}
	}
}

func TestBytesWithOneMore(t *testing.T) {
	for _, part := range wireParts() {
		for _, good := range part.goods {
			for c := range 256 {
				part.ask(t, append(slices.Clone(good), byte(c)))
				part.ask(t, append([]byte{byte(c)}, good...))
			}
			part.ask(t, append(slices.Clone(good), good...))
			for at := range good {
				part.ask(t, slices.Insert(slices.Clone(good), at, 0))
				part.ask(t, slices.Insert(slices.Clone(good), at, 'a'))
			}
		}
	}
}

// Counts, lengths and fields are all among these bytes.
func TestBytesWithOneChanged(t *testing.T) {
	for _, part := range wireParts() {
		for _, good := range part.goods {
			for at := range good {
				b := slices.Clone(good)
				for c := range 256 {
					b[at] = byte(c)
					part.ask(t, b)
				}
			}
		}
	}
}

func TestBytesWithoutOrder(t *testing.T) {
	for _, part := range wireParts() {
		for _, b := range [][]byte{nil, {}, {0}, {1}, {100}, {101}, {255}} {
			part.ask(t, b)
		}
		for seed := range 3000 {
			b := noise(uint64(seed), seed%120)
			part.ask(t, b)
			for i := range b {
				b[i] %= 9
			}
			part.ask(t, b)
		}
	}
}

func TestReadFieldsBeyondBounds(t *testing.T) {
	request := "\x01\x00\x02\x04\x00\x00\x01a"
	digest := strings.Repeat("d", 32)
	big := strings.Repeat("b", 20001)
	wrong := map[string][]string{
		"Request": {"", "\x01\x00\x02\x04\x00\x00\x00", "\x01\x00\x00\x04\x00\x00\x01a", "\x01\x00\x02\x04\x00\x01\x01a", "\x01\x00\x02\x01\x00\x00\x01a",
			"\x01\x00\x02\x03\x03\xe9\x01a", "\x01\x00\x02\x00\x00\x00\x01a", "\x01\x00\x02\x05\x00\x00\x01a", "\x01\x00\x02\x04\x00\x00\x0da234567890123", "\x01\x00\x02\x04\x00\x00\x019"},
		"Batch": {"", "\x00\x00", "\x00" + request, "\x01", "\x02" + request, "\x01" + request + request, "\x02\x07\x00\x00\x00\x00" + mac + request,
			"\x02\x00\x3b\x9a\xca\x01" + mac + request, "\x02\x00\xff\xff\xff\xff" + mac + request, "\x03\x01\x00\x00\x00\x00" + mac + "\x01\x00\x00\x00\x00" + mac + request,
			"\x03\x02\x00\x00\x00\x00" + mac + "\x01\x00\x00\x00\x00" + mac + request, "\x09" + strings.Repeat("\x00\x00\x00\x00\x00"+mac, 8) + request},
		"Message": {"", "\x04\x15\x00\x00\x00\x00\x00" + mac, "\x04\x00\x01\x00\x00\x00\x00" + mac, "\x04\x00\x00\x07\x00\x00\x00" + mac, "\x00\x00\x00\x00\x00\x00\x00" + mac,
			"\x06\x00\x00\x00\x00\x00\x00" + mac, "\x04\x00\x00\x00\x20" + digest + "\x00\x00" + mac, "\x02\x00\x01\x00\x00\x00\x00" + mac, "\x02\x00\x00\x00\x20" + digest + "\x00\x00" + mac,
			"\x02\x00\x09\x00\x20" + digest + "\x00\x00" + mac, "\x02\x00\x01\x00\x20" + digest + "\x00\x01b" + mac, "\x01\x00\x01\x00\x20" + digest + "\x00\x00" + mac,
			"\x05\x00\x00\x00\x00\x4e\x21" + big + mac, "\x01\x00\x01\x00\x1f" + digest[1:] + "\x00\x01b" + mac, "\x01\x00\x01\x00\x21d" + digest + "\x00\x01b" + mac},
		"List": {"", "\x00\x00", "\x01", "\x01\x00", "\x01\x00\x01", "\x02\x00\x00", "\x01\x00\x00\x00\x00", "\x65" + strings.Repeat("\x00", 202), "\xff" + strings.Repeat("\x00", 510), "\x01\x4e\x21" + big, "\x01\xff\xff" + strings.Repeat("b", 65533)},
	}
	for _, part := range wireParts() {
		for _, b := range wrong[part.name] {
			if part.right([]byte(b)) {
				t.Errorf("%s: %.60q is right", part.name, b)
			}
			part.ask(t, []byte(b))
		}
	}
}

// ErrLong is ahead of ErrForm, and comes of the bytes that are handed in alone.
func TestReadLongBytes(t *testing.T) {
	for _, part := range wireParts() {
		for _, good := range append(part.goods, nil) {
			for _, size := range []int{impl.MaxText + 1, impl.MaxText + 2, 4 * impl.MaxText} {
				long := append(slices.Clone(good), make([]byte, size-len(good))...)
				if _, x, code := part.read(long); code != impl.ErrLong || !reflect.DeepEqual(x, part.zero) {
					t.Errorf("Read%s of %d bytes: %d, %.80v", part.name, size, code, x)
				}
			}
			part.ask(t, append(slices.Clone(good), make([]byte, impl.MaxText-len(good))...))
		}
	}
	full, _ := impl.ListBytes(fullList(t, 4, impl.MaxText))
	if list, code := impl.ReadList(full); len(full) != impl.MaxText || len(list) != 4 || code != impl.OK {
		t.Errorf("ReadList of MaxText bytes: %d, %d", len(list), code)
	}
	if list, code := impl.ReadList(append(full, 0)); list != nil || code != impl.ErrLong {
		t.Errorf("ReadList of one byte more: %d, %d", len(list), code)
	}
}

// Promise 1, of bytes that are read.
func TestReadLeavesItsBytes(t *testing.T) {
	for _, part := range wireParts() {
		for _, good := range part.goods {
			for _, b := range [][]byte{good, good[:len(good)-1], append(slices.Clone(good), 1), nil, make([]byte, impl.MaxText+1)} {
				unchanged(t, "Read"+part.name, b, func(b []byte) { part.read(b) })
			}
			memory := slices.Clone(good)
			_, x, _ := part.read(memory)
			_, want, _ := part.read(good)
			for i := range memory {
				memory[i] = ^memory[i]
			}
			if !reflect.DeepEqual(x, want) {
				t.Errorf("what Read%s answered changes with the bytes it was read from", part.name)
			}
		}
	}
}

// Promise 1: what is read is new memory each time, so that writing into it touches neither the bytes nor a later answer.
func TestReadAnswersAreNew(t *testing.T) {
	b, _ := impl.BatchBytes(rightBatch(7))
	ahead := string(b)
	first, _ := impl.ReadBatch(b)
	clear(first.Readings)
	_ = append(first.Readings[:3], impl.Reading{From: 99})
	if second, code := impl.ReadBatch(b); !reflect.DeepEqual(second, rightBatch(7)) || code != impl.OK || string(b) != ahead {
		t.Errorf("ReadBatch again: %v, %d", second, code)
	}
	b, _ = impl.ListBytes(texts(9, 9))
	ahead = string(b)
	list, _ := impl.ReadList(b)
	clear(list)
	if again, code := impl.ReadList(b); !slices.Equal(again, texts(9, 9)) || code != impl.OK || string(b) != ahead {
		t.Errorf("ReadList again: %q, %d", again, code)
	}
}

// Promise 1, of things whose bytes are told: lists have elements behind their end that must stay.
func TestTellLeavesItsThing(t *testing.T) {
	memory := append(rightBatch(7).Readings, impl.Reading{From: 41}, impl.Reading{From: 42})
	ahead := slices.Clone(memory)
	for n := range len(memory) + 1 {
		for _, null := range []bool{false, true} {
			impl.BatchBytes(impl.Batch{Null: null, Request: rightRequest(impl.LkRenew), Readings: memory[:n]})
		}
	}
	if !slices.Equal(memory, ahead) {
		t.Error("BatchBytes writes into its readings")
	}
	many := texts(120, 3)
	before := slices.Clone(many)
	for _, n := range []int{0, 1, 50, 99, 100, 101, 120} {
		impl.ListBytes(many[:n])
	}
	if !slices.Equal(many, before) {
		t.Error("ListBytes writes into its list")
	}
}

func TestToldBytesAreNew(t *testing.T) {
	list := texts(4, 30)
	x := rightBatch(5)
	null := impl.Batch{Null: true}
	tell := map[string]func() []byte{
		"RequestBytes":         func() []byte { b, _ := impl.RequestBytes(x.Request); return b },
		"BatchBytes":           func() []byte { b, _ := impl.BatchBytes(x); return b },
		"BatchBytes of Null":   func() []byte { b, _ := impl.BatchBytes(null); return b },
		"MessageBytes":         func() []byte { b, _ := impl.MessageBytes(rightMessage(impl.PbPrePrepare)); return b },
		"ListBytes":            func() []byte { b, _ := impl.ListBytes(list); return b },
		"ListBytes of nothing": func() []byte { b, _ := impl.ListBytes(nil); return b },
	}
	for name, call := range tell {
		first := call()
		ahead := string(first)
		second := call()
		for i := range first[:cap(first)] {
			first[:cap(first)][i] = 0xa5
		}
		if string(second) != ahead || string(call()) != ahead {
			t.Errorf("%s: two answers share memory", name)
		}
	}
	b, _ := impl.BatchBytes(x)
	ahead := string(b)
	clear(x.Readings)
	l, _ := impl.ListBytes(list)
	listed := string(l)
	clear(list)
	if string(b) != ahead || string(l) != listed {
		t.Error("bytes change with the thing that they are of")
	}
}
