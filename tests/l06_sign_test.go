package tests

import (
	"fmt"
	"math"
	"slices"
	"strings"
	"testing"

	"loop.example/g00292/impl"
)

// noNodes are numbers that are none of nodes.
func noNodes() []int {
	list := []int{2, 3, 5, 6, 8, 9, 10, 13, -4, -7, 1<<32 + 1, 1<<32 + 4, math.MinInt + 4, math.MinInt + 7, math.MaxInt - 6}
	for _, n := range edges(1, 7) {
		if _, known := ownFaults[n]; !known {
			list = append(list, n)
		}
	}
	return list
}

// ownUnsigned tells a message's bytes without Mac; higher bits of fields that are not right are lost.
func ownUnsigned(m impl.Message) string {
	return one(m.Kind) + one(m.View) + one(m.Seq) + one(m.From) + one(len(m.Digest)) + m.Digest + two(len(m.Body)) + m.Body
}

// signed is a message of that node with its mark, be it right or not.
func signed(from int, m impl.Message) impl.Message {
	m.From = from
	m.Mac = ownMark(from, ownUnsigned(m))
	return m
}

func ownDigest(body string) string { return sha("batch", body) }

// readBody is a body of a request of that name with readings of these nodes.
func readBody(name string, list []impl.Reading) string {
	b := one(len(list) + 1)
	for _, x := range list {
		b += one(x.From) + four(x.Value) + x.Mac
	}
	return b + "\x01\x00\x02\x04\x00\x00" + one(len(name)) + name
}

// body is a right one of that name; those of other names differ.
func body(nodes int, name string) string {
	from := quorums(nodes)[len(name)%len(quorums(nodes))]
	return readBody(name, readingsOf(from, []int{5, 9, 7, 1000, 3}))
}

const null = "\x00"

func TestQuorumOf(t *testing.T) {
	for nodes, want := range map[int]int{1: 1, 4: 3, 7: 5} {
		got, code := impl.QuorumOf(nodes)
		askNumber(t, fmt.Sprint("QuorumOf ", nodes), got, code, want, impl.OK)
	}
	for _, nodes := range noNodes() {
		got, code := impl.QuorumOf(nodes)
		askNumber(t, fmt.Sprint("QuorumOf ", nodes), got, code, 0, impl.ErrRange)
	}
}

// setsOf are all sets of so many of the nodes, as bits.
func setsOf(nodes, count int) []int {
	var all []int
	for set := range 1 << nodes {
		if bitsOf(set) == count {
			all = append(all, set)
		}
	}
	return all
}

// Promise 8: any two quorums have f + 1 nodes in common, and f nodes that say nothing can not keep one from being.
func TestQuorumsMeet(t *testing.T) {
	for nodes, faults := range ownFaults {
		quorum, _ := impl.QuorumOf(nodes)
		sets := setsOf(nodes, quorum)
		if len(sets) == 0 || quorum > nodes-faults {
			t.Errorf("%d nodes have no quorum of %d", nodes, quorum)
		}
		least := nodes
		for _, a := range sets {
			for _, b := range sets {
				least = min(least, bitsOf(a&b))
			}
		}
		if least != faults+1 {
			t.Errorf("quorums of %d of %d nodes have but %d in common", quorum, nodes, least)
		}
	}
}

func TestPrimaryOf(t *testing.T) {
	for nodes := range ownFaults {
		for view := range 21 {
			want := view
			for want >= nodes {
				want -= nodes
			}
			got, code := impl.PrimaryOf(view, nodes)
			askNumber(t, fmt.Sprint("PrimaryOf ", view, nodes), got, code, want, impl.OK)
		}
		for _, view := range edges(0, 20) {
			if view >= 0 && view <= 20 {
				continue
			}
			got, code := impl.PrimaryOf(view, nodes)
			askNumber(t, fmt.Sprint("PrimaryOf ", view, nodes), got, code, 0, impl.ErrRange)
		}
	}
	for _, nodes := range noNodes() {
		for _, view := range append(edges(0, 20), 6) {
			got, code := impl.PrimaryOf(view, nodes)
			askNumber(t, fmt.Sprint("PrimaryOf ", view, nodes), got, code, 0, impl.ErrRange)
		}
	}
	known := [][3]int{{0, 1, 0}, {20, 1, 0}, {20, 4, 0}, {6, 4, 2}, {19, 4, 3}, {20, 7, 6}, {7, 7, 0}, {6, 7, 6}, {13, 7, 6}}
	for _, row := range known {
		got, code := impl.PrimaryOf(row[0], row[1])
		askNumber(t, fmt.Sprint("PrimaryOf ", row), got, code, row[2], impl.OK)
	}
}

func askBody(t *testing.T, what string, nodes int, body string, want bool) {
	t.Helper()
	if impl.BodyOK(nodes, body) != want {
		t.Errorf("BodyOK, %s, %d nodes, %d bytes: %v", what, nodes, len(body), !want)
	}
}

func TestBodiesThatAreRight(t *testing.T) {
	for nodes := range ownFaults {
		askBody(t, "Null", nodes, null, true)
		for _, from := range quorums(nodes) {
			for _, values := range [][]int{{0}, {topReading}, {5, 9, 7, 1000, 3}} {
				askBody(t, fmt.Sprint(from), nodes, readBody("a", readingsOf(from, values)), true)
			}
		}
		for _, r := range manyRequests() {
			b, _ := impl.BatchBytes(impl.Batch{Request: r, Readings: readingsOf(quorums(nodes)[0], []int{5})})
			askBody(t, fmt.Sprint(r), nodes, string(b), true)
		}
	}
}

// A Null batch has no readings, and nodes are asked for by readings alone.
func TestBodiesOfNoNodes(t *testing.T) {
	for _, nodes := range noNodes() {
		askBody(t, "Null", nodes, null, true)
		for other := range ownFaults {
			askBody(t, fmt.Sprint("right of ", other), nodes, body(other, "a"), false)
		}
	}
}

func TestBodiesCountTheirReadings(t *testing.T) {
	for nodes, faults := range ownFaults {
		for count := range 8 {
			var from []int
			for node := range count {
				from = append(from, node)
			}
			text := readBody("a", readingsOf(from, []int{5}))
			askBody(t, fmt.Sprint(count, " readings"), nodes, text, count == 2*faults+1)
		}
		for _, from := range quorums(7) {
			askBody(t, fmt.Sprint(from), nodes, readBody("a", readingsOf(from, []int{5})), nodes == 7)
			if nodes == 4 {
				text := readBody("a", readingsOf(from[2:], []int{5}))
				askBody(t, fmt.Sprint(from[2:]), nodes, text, from[4] < 4)
			}
		}
	}
}

func TestBodiesOfWrongReadings(t *testing.T) {
	for nodes := range ownFaults {
		for _, from := range quorums(nodes) {
			list := readingsOf(from, []int{5, 6, 7, 8, 9})
			for i := range list {
				for k, mark := range badMarks(list[i]) {
					if len(mark) == impl.MacSize {
						bad := slices.Clone(list)
						bad[i].Mac = mark
						askBody(t, fmt.Sprint("mark ", k, " at ", i), nodes, readBody("a", bad), false)
					}
				}
				for j := range i {
					bad := slices.Clone(list)
					bad[i], bad[j] = bad[j], bad[i]
					askBody(t, "not rising", nodes, readBody("a", bad), false)
					bad[i] = bad[j]
					askBody(t, "alike", nodes, readBody("a", bad), false)
				}
				bad := slices.Clone(list)
				bad[i] = reading(from[i], topReading+1)
				askBody(t, "beyond all readings", nodes, readBody("a", bad), false)
			}
		}
	}
}

func TestBodiesOfOtherBytes(t *testing.T) {
	for nodes := range ownFaults {
		right := body(nodes, "door")
		askBody(t, "right", nodes, right, true)
		for _, text := range append(oddTexts(), "x", "\x01", "\x02", "\x00\x00", right+right, null+right, right+null, "\x01\x00\x02\x04\x00\x00\x01a") {
			askBody(t, fmt.Sprintf("%.20q", text), nodes, text, text == null)
		}
		for at := range right {
			askBody(t, "cut", nodes, right[:at], false)
			askBody(t, "cut ahead", nodes, right[at+1:], false)
		}
		for _, size := range []int{impl.MaxBody - 1, impl.MaxBody, impl.MaxBody + 1, impl.MaxText - 5, impl.MaxText, impl.MaxText + 1, 4 * impl.MaxText} {
			askBody(t, "longer", nodes, right+strings.Repeat("a", size-len(right)), false)
			askBody(t, "noughts", nodes, strings.Repeat(null, size), false)
		}
		for _, name := range []string{"", "9", "a23456789_123", "a b", "\u00e9"} {
			askBody(t, "a wrong name", nodes, readBody(name, readingsOf(quorums(nodes)[0], []int{5})), false)
		}
	}
}

func TestBodyDigest(t *testing.T) {
	for _, text := range append(oddTexts(), null, body(1, "a"), body(4, "a"), body(7, "a"), strings.Repeat("b", impl.MaxText-6), strings.Repeat("b", impl.MaxText-5), strings.Repeat("b", impl.MaxText-4)) {
		want, wantCode := ownDigest(text), impl.OK
		if len(text) > 65531 {
			want, wantCode = "", impl.ErrLong
		}
		got, code := impl.BodyDigest(text)
		askText(t, fmt.Sprintf("BodyDigest of %d bytes", len(text)), got, code, want, wantCode)
	}
}

// everyMessage are right messages of each kind, fields at their bounds, without From and Mac.
func everyMessage() []impl.Message {
	digest := sha("door")
	big := string(noise(8, impl.MaxBody))
	return []impl.Message{
		{Kind: impl.PbPrePrepare, View: 0, Seq: 1, Digest: digest, Body: "b"},
		{Kind: impl.PbPrePrepare, View: 20, Seq: 8, Digest: digest, Body: big},
		{Kind: impl.PbPrepare, View: 1, Seq: 3, Digest: digest},
		{Kind: impl.PbCommit, View: 20, Seq: 8, Digest: digest},
		{Kind: impl.PbViewChange, View: 0},
		{Kind: impl.PbViewChange, View: 9, Body: null},
		{Kind: impl.PbNewView, View: 20, Body: big},
		{Kind: impl.PbNewView},
	}
}

// wrongMessages are not right, whoever signs them.
func wrongMessages() []impl.Message {
	list := []impl.Message{{}, {Kind: 6, View: 1}, {Kind: -1}, {Kind: 256 + impl.PbNewView}}
	for _, right := range everyMessage() {
		for _, number := range []int{-1, 9, 21, 256, 257, math.MinInt, math.MaxInt} {
			seq, view, kind := right, right, right
			seq.Seq, view.View, kind.Kind = number, number, number
			list = append(list, seq, kind)
			if number != 9 {
				list = append(list, view)
			}
		}
		for _, text := range []string{"d", right.Digest + "d", longText()} {
			digest := right
			digest.Digest = text
			if text != right.Digest && len(text) != impl.HashSize {
				list = append(list, digest)
			}
		}
		for _, text := range []string{strings.Repeat("b", impl.MaxBody+1), longText(), strings.Repeat("b", 65536+1)} {
			long := right
			long.Body = text
			list = append(list, long)
		}
	}
	digest := sha("door")
	return append(list,
		impl.Message{Kind: impl.PbPrePrepare, Seq: 1, Digest: digest},
		impl.Message{Kind: impl.PbPrepare, Seq: 1, Digest: digest, Body: "b"},
		impl.Message{Kind: impl.PbCommit, Seq: 0, Digest: digest},
		impl.Message{Kind: impl.PbPrepare, Seq: 1},
		impl.Message{Kind: impl.PbViewChange, Seq: 1},
		impl.Message{Kind: impl.PbNewView, Digest: digest},
	)
}

func askSign(t *testing.T, what string, id int, m, want impl.Message, wantCode int) {
	t.Helper()
	if got, code := impl.SignMessage(id, m); got != want || code != wantCode {
		t.Errorf("SignMessage, %s, of %d: %.80v %d, not %.80v %d", what, id, got, code, want, wantCode)
	}
}

func TestSignMessageKnown(t *testing.T) {
	digest := strings.Repeat("\x00\xff", 16)
	known := []struct {
		id      int
		message impl.Message
		under   string
	}{
		{2, impl.Message{Kind: impl.PbPrepare, View: 1, Seq: 3, Digest: digest}, "\x02\x01\x03\x02\x20" + digest + "\x00\x00"},
		{6, impl.Message{Kind: impl.PbPrePrepare, View: 20, Seq: 8, Digest: digest, Body: "body"}, "\x01\x14\x08\x06\x20" + digest + "\x00\x04body"},
		{0, impl.Message{Kind: impl.PbCommit, Seq: 1, Digest: digest}, "\x03\x00\x01\x00\x20" + digest + "\x00\x00"},
		{5, impl.Message{Kind: impl.PbViewChange, View: 2, Body: strings.Repeat("v", 258)}, "\x04\x02\x00\x05\x00\x01\x02" + strings.Repeat("v", 258)},
		{1, impl.Message{Kind: impl.PbNewView, View: 9}, "\x05\x09\x00\x01\x00\x00\x00"},
	}
	for _, row := range known {
		want := row.message
		want.From, want.Mac = row.id, sha(sha("node key", one(row.id)), row.under)[:8]
		askSign(t, "known", row.id, row.message, want, impl.OK)
	}
}

// From and Mac are written over, whatever they were.
func TestSignMessageOverOthers(t *testing.T) {
	for _, right := range everyMessage() {
		for id := range 7 {
			want := signed(id, right)
			for _, from := range append(edges(0, 6), id) {
				m := right
				m.From = from
				askSign(t, fmt.Sprint("From ", from), id, m, want, impl.OK)
			}
			for _, text := range []string{"", "m", mac, mac + "9", want.Mac, longText()} {
				m := right
				m.Mac = text
				askSign(t, fmt.Sprintf("Mac of %d bytes", len(text)), id, m, want, impl.OK)
			}
			askSign(t, "again", id, signed((id+1)%7, right), want, impl.OK)
		}
	}
}

func TestSignMessageCodes(t *testing.T) {
	for _, id := range append(edges(0, 6), 2, 3, 4, 256, 1<<32+2) {
		is := id >= 0 && id <= 6
		for _, m := range everyMessage() {
			if is {
				askSign(t, "right", id, m, signed(id, m), impl.OK)
			} else {
				askSign(t, "right", id, m, impl.Message{}, impl.ErrRange)
			}
		}
		for i, m := range wrongMessages() {
			want := impl.ErrBad
			if !is {
				want = impl.ErrRange
			}
			askSign(t, fmt.Sprint("wrong ", i), id, m, impl.Message{}, want)
		}
	}
}

func askSignedBy(t *testing.T, what string, nodes int, m impl.Message, want bool) {
	t.Helper()
	if impl.MessageSigned(nodes, m) != want {
		t.Errorf("MessageSigned, %s, %d nodes, kind %d of %d: %v", what, nodes, m.Kind, m.From, !want)
	}
}

func TestMessageSigned(t *testing.T) {
	for _, m := range everyMessage() {
		for from := range 7 {
			whole := signed(from, m)
			got, code := impl.SignMessage(from, m)
			if got != whole || code != impl.OK {
				t.Errorf("SignMessage of %d: %.80v %d", from, got, code)
			}
			for nodes := range ownFaults {
				askSignedBy(t, "right", nodes, whole, from < nodes)
			}
			for _, nodes := range noNodes() {
				askSignedBy(t, "no nodes", nodes, whole, false)
			}
		}
	}
}

// Marks do not make a message right, nor a node of a number.
func TestMessageSignedOfWrongOnes(t *testing.T) {
	for nodes := range ownFaults {
		for i, m := range wrongMessages() {
			askSignedBy(t, fmt.Sprint("wrong ", i), nodes, signed(0, m), false)
			askSignedBy(t, fmt.Sprint("wrong and not signed ", i), nodes, m, false)
		}
		for _, m := range everyMessage() {
			for _, from := range append(edges(0, 6), nodes, 256, 1<<32) {
				askSignedBy(t, "From", nodes, signed(from, m), from >= 0 && from < nodes)
			}
		}
	}
}

// changed are the messages that differ from a signed one in one field.
func changed(m impl.Message) []impl.Message {
	var list []impl.Message
	for kind := range 7 {
		x := m
		x.Kind = kind
		list = append(list, x)
	}
	for number := range 22 {
		view, seq, from := m, m, m
		view.View, seq.Seq, from.From = number, number, number
		list = append(list, view, seq, from)
	}
	for _, text := range []string{"", null, "a", mac, sha("other"), sha("door")} {
		digest, body, mark := m, m, m
		digest.Digest, body.Body, mark.Mac = text, text, text
		list = append(list, digest, body, mark)
	}
	for at := range len(m.Digest) {
		x := m
		x.Digest = flip(m.Digest, at)
		list = append(list, x)
	}
	for at := range len(m.Mac) {
		x := m
		x.Mac = flip(m.Mac, at)
		list = append(list, x)
	}
	if len(m.Body) > 0 {
		first, last, longer, shorter := m, m, m, m
		first.Body, last.Body = flip(m.Body, 0), flip(m.Body, len(m.Body)-1)
		longer.Body, shorter.Body = m.Body+null, m.Body[1:]
		list = append(list, first, last, longer, shorter)
	}
	return list
}

func TestMessageSignedAfterChanges(t *testing.T) {
	for _, m := range everyMessage() {
		for from := range 7 {
			whole := signed(from, m)
			for _, nodes := range []int{1, 4, 7} {
				for i, x := range changed(whole) {
					askSignedBy(t, fmt.Sprint("change ", i), nodes, x, x == whole && from < nodes)
				}
			}
		}
	}
	m := signed(2, everyMessage()[2])
	for _, mark := range []string{"", m.Mac[:7], m.Mac + null, m.Mac + m.Mac, longText(), ownMark(2, ownUnsigned(m)+m.Mac), ownMark(2, ""), ownMark(3, ownUnsigned(m)), ownMark(2, "clock"+ownUnsigned(m))} {
		x := m
		x.Mac = mark
		askSignedBy(t, "another mark", 4, x, false)
	}
}
