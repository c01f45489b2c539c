package tests

import (
	"fmt"
	"slices"
	"strings"
	"testing"

	"loop.example/g00292/impl"
)

func prepare(from, view, seq int, body string) impl.Message {
	return signed(from, impl.Message{Kind: impl.PbPrepare, View: view, Seq: seq, Digest: ownDigest(body)})
}

// cert is a certificate of these nodes, be it right or not.
func cert(from []int, view, seq int, body string) impl.Cert {
	c := impl.Cert{Body: body}
	for _, node := range from {
		c.Prepares = append(c.Prepares, prepare(node, view, seq, body))
	}
	return c
}

func copyCert(c impl.Cert) impl.Cert {
	c.Prepares = slices.Clone(c.Prepares)
	return c
}

// ownList tells a list's bytes, whatever its texts are.
func ownList(list ...string) string {
	b := one(len(list))
	for _, text := range list {
		b += two(len(text)) + text
	}
	return b
}

func ownCertBytes(c impl.Cert) string {
	list := []string{c.Body}
	for _, m := range c.Prepares {
		list = append(list, ownUnsigned(m)+m.Mac)
	}
	return ownList(list...)
}

func sameCert(a, b impl.Cert) bool {
	return a.Body == b.Body && slices.Equal(a.Prepares, b.Prepares)
}

// askCert holds CertOK to whether a certificate is right, for that number of nodes.
func askCert(t *testing.T, what string, nodes int, c impl.Cert, want bool) {
	t.Helper()
	behind := prepare(6, 20, 8, null)
	askKept(t, "CertOK", c.Prepares, behind, func(list []impl.Message) {
		if impl.CertOK(nodes, impl.Cert{Body: c.Body, Prepares: list}) != want {
			t.Errorf("CertOK, %s, %d nodes, %d Prepares: %v", what, nodes, len(list), !want)
		}
	})
}

// eachQuorum calls with every quorum of 1, 4 and 7 nodes and a right certificate of it.
func eachQuorum(call func(nodes int, from []int, c impl.Cert)) {
	for _, nodes := range []int{1, 4, 7} {
		for i, from := range quorums(nodes) {
			call(nodes, from, cert(from, i, i%8+1, body(nodes, "door")))
		}
	}
}

func TestCertsOfEveryQuorum(t *testing.T) {
	eachQuorum(func(nodes int, from []int, c impl.Cert) {
		askCert(t, fmt.Sprint(from), nodes, c, true)
		askCert(t, "Null", nodes, cert(from, 2, 3, null), true)
		for other := range ownFaults {
			askCert(t, fmt.Sprint(from), other, c, other == nodes)
			askCert(t, fmt.Sprint("Null ", from), other, cert(from, 2, 3, null), other == nodes)
		}
		for _, other := range noNodes() {
			askCert(t, fmt.Sprint(from), other, c, false)
			askCert(t, "Null", other, cert(from, 2, 3, null), false)
		}
	})
	for _, nodes := range append(noNodes(), 1, 4, 7) {
		for _, text := range []string{"", null, body(4, "a")} {
			askCert(t, "nil", nodes, impl.Cert{Body: text}, false)
			askCert(t, "empty", nodes, impl.Cert{Body: text, Prepares: []impl.Message{}}, false)
		}
	}
}

func TestCertsOfEveryPlace(t *testing.T) {
	for nodes := range ownFaults {
		text := body(nodes, "a")
		for view := -1; view <= 22; view++ {
			for seq := -1; seq <= 10; seq++ {
				right := view >= 0 && view <= 20 && seq >= 1 && seq <= 8
				askCert(t, fmt.Sprint("View ", view, " Seq ", seq), nodes, cert(quorums(nodes)[0], view, seq, text), right)
			}
		}
	}
}

// Every list of up to eight nodes, rising or not, is a quorum just if it rises and has 2f + 1 of the nodes.
func TestCertsOfEverySet(t *testing.T) {
	for nodes, faults := range ownFaults {
		for set := range 1 << 7 {
			var from []int
			for node := range 7 {
				if set>>node&1 == 1 {
					from = append(from, node)
				}
			}
			is := set>>nodes == 0 && len(from) == 2*faults+1
			askCert(t, fmt.Sprint(from), nodes, cert(from, 1, 1, null), is)
			if len(from) > 1 {
				slices.Reverse(from)
				askCert(t, fmt.Sprint(from), nodes, cert(from, 1, 1, null), false)
			}
		}
	}
}

func TestCertsOfOtherCounts(t *testing.T) {
	eachQuorum(func(nodes int, from []int, c impl.Cert) {
		for i, m := range c.Prepares {
			less := copyCert(c)
			less.Prepares = slices.Delete(less.Prepares, i, i+1)
			askCert(t, "one fewer", nodes, less, false)
			twice := copyCert(c)
			twice.Prepares = slices.Insert(twice.Prepares, i, m)
			askCert(t, "one twice", nodes, twice, false)
		}
		for node := range nodes {
			if !slices.Contains(from, node) {
				more := append(slices.Clone(from), node)
				slices.Sort(more)
				askCert(t, fmt.Sprint(more), nodes, cert(more, 1, 2, c.Body), false)
			}
		}
		for _, count := range []int{8, 100, 256, impl.MaxList, impl.MaxList + 1} {
			many := impl.Cert{Body: c.Body, Prepares: slices.Repeat(c.Prepares, count)[:count]}
			askCert(t, "many", nodes, many, false)
			copy(many.Prepares, make([]impl.Message, count))
			askCert(t, "many empty ones", nodes, many, false)
		}
	})
}

func TestCertsOrder(t *testing.T) {
	eachQuorum(func(nodes int, from []int, c impl.Cert) {
		for i := range from {
			for j := range i {
				swapped, alike, other := copyCert(c), copyCert(c), copyCert(c)
				swapped.Prepares[i], swapped.Prepares[j] = c.Prepares[j], c.Prepares[i]
				alike.Prepares[i] = c.Prepares[j]
				other.Prepares[j] = c.Prepares[i]
				for _, bad := range []impl.Cert{swapped, alike, other} {
					askCert(t, fmt.Sprint(i, " and ", j), nodes, bad, false)
				}
			}
			for _, stranger := range []int{-1, nodes, nodes + 1, 7, 8, 256 + from[i]} {
				bad := copyCert(c)
				m := c.Prepares[i]
				bad.Prepares[i] = prepare(stranger, m.View, m.Seq, c.Body)
				askCert(t, fmt.Sprint("node ", stranger), nodes, bad, false)
			}
		}
	})
}

// otherPrepares are messages that do not stand in place of a Prepare, each rightly signed by its node.
func otherPrepares(m impl.Message, nodes int) []impl.Message {
	view, seq, digest, null1 := m, m, m, m
	view.View, seq.Seq = (m.View+1)%21, m.Seq%8+1
	digest.Digest, null1.Digest = ownDigest(body(nodes, "other")), ownDigest(null)
	commit, pre, change, begun := m, m, m, m
	commit.Kind = impl.PbCommit
	pre.Kind, pre.Body = impl.PbPrePrepare, body(nodes, "door")
	change.Kind, change.Seq, change.Digest, change.Body = impl.PbViewChange, 0, "", null
	begun.Kind, begun.Seq, begun.Digest, begun.Body = impl.PbNewView, 0, "", null
	list := []impl.Message{view, seq, digest, null1, commit, pre, change, begun, {}}
	for i := range list {
		list[i] = signed(m.From, list[i])
	}
	return list
}

// Each of them is wrong at every place of every quorum, all of them together too.
func TestCertsOfOtherPrepares(t *testing.T) {
	eachQuorum(func(nodes int, from []int, c impl.Cert) {
		for i, m := range c.Prepares {
			for k, x := range otherPrepares(m, nodes) {
				bad := copyCert(c)
				bad.Prepares[i] = x
				// One node alone agrees with itself on any place.
				alone := nodes == 1 && k < 2
				askCert(t, fmt.Sprint("other ", k, " at ", i), nodes, bad, alone)
			}
			for k, x := range changed(m) {
				if x != m {
					bad := copyCert(c)
					bad.Prepares[i] = x
					askCert(t, fmt.Sprint("change ", k, " at ", i), nodes, bad, false)
				}
			}
		}
		for k := range otherPrepares(c.Prepares[0], nodes) {
			all := copyCert(c)
			for i, m := range all.Prepares {
				all.Prepares[i] = otherPrepares(m, nodes)[k]
			}
			askCert(t, fmt.Sprint("other ", k, " everywhere"), nodes, all, k < 2)
		}
	})
}

func TestCertsOfOtherBodies(t *testing.T) {
	for nodes := range ownFaults {
		from := quorums(nodes)[0]
		right := cert(from, 1, 2, body(nodes, "door"))
		askCert(t, "right", nodes, right, true)
		for _, text := range []string{"", null, body(nodes, "other"), right.Body + null, right.Body[1:], longText()} {
			bad := copyCert(right)
			bad.Body = text
			askCert(t, fmt.Sprintf("another body of %d bytes", len(text)), nodes, bad, false)
		}
		unsigned := readingsOf(from, []int{5})
		unsigned[0].Mac = mac
		wrong := []string{"", "x", "\x00\x00", right.Body + null, readBody("a", unsigned), readBody("a", nil), readBody("9", readingsOf(from, []int{5}))}
		for other := range ownFaults {
			if other != nodes {
				wrong = append(wrong, body(other, "door"))
			}
		}
		for _, size := range []int{impl.MaxBody, impl.MaxBody + 1, impl.MaxText - 5, impl.MaxText - 4, impl.MaxText, impl.MaxText + 1} {
			wrong = append(wrong, strings.Repeat(null, size), right.Body+strings.Repeat("a", size-len(right.Body)))
		}
		for i, text := range wrong {
			askCert(t, fmt.Sprint("a wrong body ", i), nodes, cert(from, 1, 2, text), false)
		}
		long := cert(from, 1, 2, "")
		long.Body = longText()
		for i := range long.Prepares {
			long.Prepares[i] = signed(from[i], impl.Message{Kind: impl.PbPrepare, View: 1, Seq: 2})
		}
		askCert(t, "no digest of a long body", nodes, long, false)
	}
}

// formedCerts have a certificate's form; not all of them are right.
func formedCerts() []impl.Cert {
	strange := impl.Message{Kind: impl.PbPrepare, View: 20, Seq: 8, From: 6, Digest: sha("other"), Mac: mac}
	return []impl.Cert{
		{}, {Body: null}, {Body: "any text"},
		cert([]int{0}, 0, 1, body(1, "a")),
		cert([]int{0, 1, 3}, 1, 3, body(4, "door")),
		cert([]int{0, 1, 2, 3, 4, 5, 6}, 20, 8, body(7, "a23456789_12")),
		{Body: body(4, "a"), Prepares: []impl.Message{strange, strange, prepare(2, 3, 4, null), strange}},
		{Prepares: slices.Repeat([]impl.Message{strange}, 7)},
	}
}

func askCertBytes(t *testing.T, what string, c impl.Cert, wantCode int) {
	t.Helper()
	want := ""
	if wantCode == impl.OK {
		want = ownCertBytes(c)
	}
	askKept(t, "CertBytes", c.Prepares, prepare(6, 20, 8, null), func(list []impl.Message) {
		b, code := impl.CertBytes(impl.Cert{Body: c.Body, Prepares: list})
		askText(t, "CertBytes, "+what, string(b), code, want, wantCode)
	})
	if wantCode != impl.OK {
		return
	}
	if back, code := impl.ReadCert([]byte(want)); !sameCert(back, c) || code != impl.OK {
		t.Errorf("ReadCert, %s: %.80v %d", what, back, code)
	}
}

// Promise 8: a certificate is read back.
func TestCertsAreReadBack(t *testing.T) {
	for i, c := range formedCerts() {
		askCertBytes(t, fmt.Sprint(i), c, impl.OK)
	}
	askCertBytes(t, "an empty list", impl.Cert{Body: "b", Prepares: []impl.Message{}}, impl.OK)
	eachQuorum(func(nodes int, from []int, c impl.Cert) {
		askCertBytes(t, fmt.Sprint(from), c, impl.OK)
		b, _ := impl.CertBytes(c)
		back, _ := impl.ReadCert(b)
		askCert(t, "read back", nodes, back, true)
	})
	for _, size := range []int{0, 1, 255, 256, impl.MaxBody - 1, impl.MaxBody} {
		for _, c := range formedCerts() {
			c.Body = string(noise(uint64(size), size))
			askCertBytes(t, fmt.Sprintf("a body of %d bytes", size), c, impl.OK)
		}
	}
}

func TestCertBytesKnown(t *testing.T) {
	digest := strings.Repeat("d", 32)
	known := []struct {
		cert  impl.Cert
		bytes string
	}{
		{impl.Cert{}, "\x01\x00\x00"},
		{impl.Cert{Body: null}, "\x01\x00\x01\x00"},
		{impl.Cert{Body: "ab", Prepares: []impl.Message{{Kind: impl.PbPrepare, View: 20, Seq: 8, From: 6, Digest: digest, Mac: mac}}},
			"\x02\x00\x02ab\x00\x2f\x02\x14\x08\x06\x20" + digest + "\x00\x00" + mac},
		{impl.Cert{Prepares: []impl.Message{{Kind: impl.PbPrepare, Seq: 1, Digest: digest, Mac: mac}, {Kind: impl.PbPrepare, View: 3, Seq: 2, From: 4, Digest: digest, Mac: "12345678"}}},
			"\x03\x00\x00\x00\x2f\x02\x00\x01\x00\x20" + digest + "\x00\x00" + mac + "\x00\x2f\x02\x03\x02\x04\x20" + digest + "\x00\x0012345678"},
	}
	for i, row := range known {
		if ownCertBytes(row.cert) != row.bytes || !rightCertBytes([]byte(row.bytes)) {
			t.Fatalf("%q is not right", row.bytes)
		}
		askCertBytes(t, fmt.Sprint("known ", i), row.cert, impl.OK)
	}
}

func TestCertBytesCodes(t *testing.T) {
	right := prepare(0, 1, 2, null)
	for _, count := range []int{8, 9, 99, 100, 101, 256, impl.MaxList, impl.MaxList + 1} {
		askCertBytes(t, fmt.Sprint(count, " Prepares"), impl.Cert{Body: null, Prepares: slices.Repeat([]impl.Message{right}, count)}, impl.ErrBad)
	}
	askCertBytes(t, "7 Prepares", impl.Cert{Body: null, Prepares: slices.Repeat([]impl.Message{right}, 7)}, impl.OK)
	for _, c := range formedCerts() {
		for _, size := range []int{impl.MaxBody + 1, 65535, impl.MaxText, impl.MaxText + 1, 65536 + 7} {
			long := c
			long.Body = strings.Repeat("b", size)
			askCertBytes(t, fmt.Sprintf("a body of %d bytes", size), long, impl.ErrBad)
		}
		for at := range c.Prepares {
			for k, m := range append(wrongMessages(), everyMessage()...) {
				if m = signed(0, m); m.Kind != impl.PbPrepare || !impl.MessageOK(m) {
					bad := copyCert(c)
					bad.Prepares[at] = m
					askCertBytes(t, fmt.Sprint("message ", k), bad, impl.ErrBad)
				}
			}
			for _, from := range []int{-1, 7, 256} {
				bad := copyCert(c)
				bad.Prepares[at].From = from
				askCertBytes(t, fmt.Sprint("From ", from), bad, impl.ErrBad)
			}
			for _, mark := range []string{"", mac[:7], mac + "9", longText()} {
				bad := copyCert(c)
				bad.Prepares[at].Mac = mark
				askCertBytes(t, fmt.Sprintf("Mac of %d bytes", len(mark)), bad, impl.ErrBad)
			}
		}
	}
}

// rightCertBytes tells, by the document's words on bytes alone, whether bytes are just a certificate's.
func rightCertBytes(b []byte) bool {
	if !rightListBytes(b) || b[0] < 1 || b[0] > 8 {
		return false
	}
	rest := b[1:]
	for i := range int(b[0]) {
		size := int(rest[0])<<8 | int(rest[1])
		text := rest[2 : 2+size]
		if i > 0 && (!rightMessageBytes(text) || text[0] != 2) {
			return false
		}
		rest = rest[2+size:]
	}
	return true
}

// certPart hands certificates to the tests that cut, change and lengthen what the wire carries.
func certPart() wirePart {
	return partOf("Cert", impl.CertBytes, impl.ReadCert, rightCertBytes, formedCerts()...)
}

func TestReadCertOfOtherLists(t *testing.T) {
	part := certPart()
	right := prepare(0, 1, 2, null)
	told := ownUnsigned(right) + right.Mac
	for count := range 12 {
		part.ask(t, []byte(ownList(slices.Repeat([]string{told}, count)...)))
	}
	for _, size := range []int{impl.MaxBody, impl.MaxBody + 1} {
		part.ask(t, []byte(ownList(strings.Repeat("b", size))))
		part.ask(t, []byte(ownList(strings.Repeat("b", size), told)))
		part.ask(t, []byte(ownList("", strings.Repeat("b", size))))
	}
	for _, m := range append(wrongMessages(), everyMessage()...) {
		if len(m.Body) <= impl.MaxBody && len(m.Digest) < 256 {
			m = signed(1, m)
			text := ownUnsigned(m) + m.Mac
			part.ask(t, []byte(ownList("", text)))
			part.ask(t, []byte(ownList(text, told)))
			part.ask(t, []byte(ownList("b", told, text)))
		}
	}
	for _, text := range []string{"", "x", told[1:], told + null, told + told, ownList(told)} {
		part.ask(t, []byte(ownList("b", text)))
		part.ask(t, []byte(ownList("b", told, text)))
		part.ask(t, []byte(ownList("b", text, told)))
	}
	for _, b := range []string{"", "\x00", "\x00\x00\x00", "\x01", "\x01\x00", "\xff"} {
		part.ask(t, []byte(b))
	}
}

// Promise 1, of certificates that are read and told.
func TestCertsAreNew(t *testing.T) {
	for i, c := range formedCerts() {
		b, _ := impl.CertBytes(c)
		ahead := string(b)
		x, _ := impl.ReadCert(b)
		y, _ := impl.ReadCert(b)
		askApart(t, "ReadCert", func(list int) impl.Message { return impl.Message{Kind: list} }, x.Prepares, y.Prepares)
		if string(b) != ahead {
			t.Errorf("cert %d: its bytes change with what was read from them", i)
		}
		x, _ = impl.ReadCert(b)
		clear(b[:cap(b)])
		if !sameCert(x, c) {
			t.Errorf("cert %d changes with the bytes that it was read from", i)
		}
		z := copyCert(c)
		b, _ = impl.CertBytes(z)
		clear(z.Prepares)
		if again, _ := impl.CertBytes(c); string(b) != ahead || string(again) != ahead {
			t.Errorf("cert %d: its bytes change with it", i)
		}
	}
}
