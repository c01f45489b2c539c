package tests

import (
	"encoding/binary"
	"fmt"
	"strings"
	"testing"

	"loop.example/g00292/impl"
)

// three tells a number in three bytes, two and four likewise.
func three(x int) string { return string(binary.BigEndian.AppendUint32(nil, uint32(x))[1:]) }
func two(x int) string   { return string(binary.BigEndian.AppendUint16(nil, uint16(x))) }
func four(x int) string  { return string(binary.BigEndian.AppendUint32(nil, uint32(x))) }
func one(x int) string   { return string([]byte{byte(x)}) }

func ownTableBytes(x impl.Table) string {
	text := four(x.Time) + three(x.Next) + one(len(x.Locks))
	for _, l := range x.Locks {
		text += one(len(l.Name)) + l.Name + three(l.Token) + two(l.Holder+1) + four(l.Expiry) + one(len(l.Waiters))
		for _, w := range l.Waiters {
			text += one(w.Client) + two(w.Lease)
		}
	}
	text += one(len(x.Seens))
	for _, s := range x.Seens {
		a := s.Answer
		text += one(s.Client) + two(s.Stamp) + one(a.Kind) + three(a.Token) + two(a.Holder+1) + four(a.Expiry)
	}
	return text
}

// byteWalk goes along bytes; what it tells behind their end is -1, which no field may be.
type byteWalk struct{ rest []byte }

func (w *byteWalk) next(size int) int {
	if len(w.rest) < size {
		w.rest = nil
		return -1
	}
	value := 0
	for _, x := range w.rest[:size] {
		value = value*256 + int(x)
	}
	w.rest = w.rest[size:]
	return value
}

func (w *byteWalk) name() string {
	size := w.next(1)
	if size < 0 || size > len(w.rest) {
		w.rest = nil
		return ""
	}
	name := string(w.rest[:size])
	w.rest = w.rest[size:]
	return name
}

func isOpName(name string) bool {
	for i := range len(name) {
		if !isNameByte(int(name[i]), i == 0) {
			return false
		}
	}
	return len(name) >= 1 && len(name) <= 12
}

func rightLockBytes(w *byteWalk, last string, next int) (string, bool) {
	name := w.name()
	token, holder, expiry, count := w.next(3), w.next(2)-1, w.next(4), w.next(1)
	right := isOpName(name) && name > last && token >= 0 && token < next && holder >= -1 && holder <= 255 && expiry >= 0 && expiry <= topExpiry && count >= 0 && count <= 4
	if right && holder == -1 {
		right = expiry == 0 && count == 0
	}
	used := map[int]int{holder: 1}
	for range max(count, 0) {
		client, lease := w.next(1), w.next(2)
		used[client]++
		right = right && client >= 0 && lease >= 1 && lease <= 1000 && used[client] == 1
	}
	return name, right
}

func rightTableBytes(b []byte) bool {
	w := &byteWalk{rest: b}
	time, next, locks := w.next(4), w.next(3), w.next(1)
	if time < 0 || time > topTime || next < 1 || next > topNext || locks < 0 || locks > 4 {
		return false
	}
	last, right := "", true
	for range locks {
		if last, right = rightLockBytes(w, last, next); !right {
			return false
		}
	}
	seens, before := w.next(1), -1
	if seens < 0 || seens > 6 {
		return false
	}
	for range seens {
		client, stamp, kind, token, holder, expiry := w.next(1), w.next(2), w.next(1), w.next(3), w.next(2), w.next(4)
		if client <= before || stamp < 1 || kind < 1 || kind > 8 || token < 0 || token > topNext || holder < 0 || holder > 256 || expiry < 0 || expiry > topExpiry {
			return false
		}
		before = client
	}
	return len(w.rest) == 0
}

func TestTableBytesKnown(t *testing.T) {
	known := []struct {
		table impl.Table
		text  string
	}{
		{emptyTable(), "\x00\x00\x00\x00\x00\x00\x01\x00\x00"},
		{impl.Table{Time: topTime, Next: topNext}, "\x3b\x9a\xca\x00\x0f\x42\x40\x00\x00"},
		{impl.Table{Time: 1, Next: 2, Locks: []impl.Lock{lock("a", 1, -1, 0)}}, "\x00\x00\x00\x01\x00\x00\x02\x01\x01a\x00\x00\x01\x00\x00\x00\x00\x00\x00\x00\x00"},
		{impl.Table{Next: 258, Locks: []impl.Lock{lock("ab", 257, 255, 65538, waiter(3, 1000), waiter(0, 1))}},
			"\x00\x00\x00\x00\x00\x01\x02\x01\x02ab\x00\x01\x01\x01\x00\x00\x01\x00\x02\x02\x03\x03\xe8\x00\x00\x01\x00"},
		{impl.Table{Next: 1, Seens: []impl.Seen{seen(9, 772, told(impl.AnNone, 0, -1, 0))}}, "\x00\x00\x00\x00\x00\x00\x01\x00\x01\x09\x03\x04\x03\x00\x00\x00\x00\x00\x00\x00\x00\x00"},
		{impl.Table{Next: 1, Seens: []impl.Seen{seen(0, 1, told(impl.AnTwice, 66051, 0, topExpiry)), seen(255, 65535, told(impl.AnOK, topNext, 255, 1))}},
			"\x00\x00\x00\x00\x00\x00\x01\x00\x02\x00\x00\x01\x08\x01\x02\x03\x00\x01\x77\x35\x94\x00\xff\xff\xff\x01\x0f\x42\x40\x01\x00\x00\x00\x00\x01"},
		{fullTable(), "\x00\x00\x01\xf4\x00\x00\x32\x04" +
			"\x03Zoo\x00\x00\x03\x00\x08\x00\x00\x02\x58\x04\x09\x00\x0a\x00\x00\x01\xff\x03\xe8\x08\x01\xf4" +
			"\x01_\x00\x00\x00\x00\x00\x00\x00\x00\x00\x00" +
			"\x01a\x00\x00\x31\x00\x01\x77\x35\x94\x00\x00" +
			"\x0ca23456789012\x00\x00\x0c\x01\x00\x00\x00\x00\x00\x01\x07\x00\x07" +
			"\x06" +
			"\x00\x00\x01\x01\x00\x00\x00\x00\x00\x00\x00\x00\x00" +
			"\x01\xff\xff\x08\x0f\x42\x40\x01\x00\x77\x35\x94\x00" +
			"\x07\x01\x00\x02\x01\x00\x00\x00\x01\x01\x00\x00\x00" +
			"\x08\x00\xff\x03\x00\x00\x00\x00\x00\x00\x00\x00\x00" +
			"\x09\x00\x02\x05\x00\x00\x03\x00\x08\x00\x00\x02\x58" +
			"\xff\x00\x03\x06\x00\x00\xff\x00\xff\x00\x00\xff\xff"},
	}
	for _, row := range known {
		if !rightTableBytes([]byte(row.text)) || ownTableBytes(row.table) != row.text {
			t.Fatalf("%q is not right", row.text)
		}
		b, code := impl.TableBytes(row.table)
		askText(t, "TableBytes", string(b), code, row.text, impl.OK)
		back, code := impl.ReadTable([]byte(row.text))
		askSameTable(t, fmt.Sprint("ReadTable ", code), back, row.table)
		d, code := impl.TableDigest(row.table)
		askText(t, "TableDigest", d, code, sha("table"+row.text), impl.OK)
	}
}

// tablePart hands tables to the tests that cut, change and lengthen what the wire carries.
func tablePart() wirePart {
	return partOf("Table", impl.TableBytes, impl.ReadTable, rightTableBytes, someTables()...)
}

// Promise 7: bytes of fields that are not right are not read, though they stand in their places.
func TestReadTableOfWrongFields(t *testing.T) {
	part := tablePart()
	for _, field := range tableFields() {
		for _, value := range edges(field.least, field.most) {
			x := copyTable(field.base)
			*field.at(&x) = value
			part.ask(t, []byte(ownTableBytes(x)))
		}
	}
	for _, x := range wrongTables() {
		part.ask(t, []byte(ownTableBytes(x)))
	}
	for count := range 256 {
		part.ask(t, []byte(ownTableBytes(impl.Table{Next: 1, Locks: manyLocks(count)})))
		part.ask(t, []byte(ownTableBytes(impl.Table{Next: 1, Seens: manySeens(count)})))
		part.ask(t, []byte(ownTableBytes(impl.Table{Next: 1, Locks: []impl.Lock{lock(strings.Repeat("a", count), 0, -1, 0)}})))
		part.ask(t, []byte("\x00\x00\x00\x00\x00\x00\x01"+one(count)))
		part.ask(t, []byte("\x00\x00\x00\x00\x00\x00\x01\x00"+one(count)))
		part.ask(t, []byte("\x00\x00\x00\x00\x00\x00\x01\x01\x01a\x00\x00\x00\x00\x01\x00\x00\x00\x00"+one(count)))
	}
	full := strings.Repeat("\xff", impl.MaxText)
	part.ask(t, []byte("\x00\x00\x00\x00\x00\x00\x01"+full[:impl.MaxText-7]))
	part.ask(t, []byte(full))
}

// Two counts that are wrong may tell as many bytes as right ones.
func TestReadTableOfMovedCounts(t *testing.T) {
	part := tablePart()
	for _, good := range part.goods {
		for at := range good {
			for other := range at {
				b := append([]byte(nil), good...)
				b[at]++
				b[other]--
				part.ask(t, b)
				b[at], b[other] = good[other], good[at]
				part.ask(t, b)
			}
		}
	}
}
