package tests

import (
	"fmt"
	"math"
	"slices"
	"strings"
	"testing"

	"loop.example/g00292/impl"
)

// replyField is a number of a reply, with what it may be.
type replyField struct {
	name        string
	at          func(r *impl.Reply) *int
	least, most int
}

func replyFields() []replyField {
	return []replyField{
		{"Node", func(r *impl.Reply) *int { return &r.Node }, 0, 6},
		{"Client", func(r *impl.Reply) *int { return &r.Client }, 0, 255},
		{"Stamp", func(r *impl.Reply) *int { return &r.Stamp }, 1, 65535},
		{"Kind", func(r *impl.Reply) *int { return &r.Answer.Kind }, 1, 8},
		{"Token", func(r *impl.Reply) *int { return &r.Answer.Token }, 0, topNext},
		{"Holder", func(r *impl.Reply) *int { return &r.Answer.Holder }, -1, 255},
		{"Expiry", func(r *impl.Reply) *int { return &r.Answer.Expiry }, 0, topExpiry},
	}
}

// numbers are those at a field's bounds, and far ones whose last bytes are a right one's.
func (f replyField) numbers() []int {
	return append(edges(f.least, f.most), f.least+2, 1<<8+3, 1<<16+3, 1<<24+3, 1<<32+3, math.MinInt+3)
}

// inBounds tells whether all that a reply says is right, whatever its mark.
func inBounds(r impl.Reply) bool {
	for _, f := range replyFields() {
		if n := *f.at(&r); n < f.least || n > f.most {
			return false
		}
	}
	return true
}

func ownReplyMark(r impl.Reply) string {
	a := r.Answer
	return ownMark(r.Node, "reply"+one(r.Client)+two(r.Stamp)+one(a.Kind)+three(a.Token)+two(a.Holder+1)+four(a.Expiry))
}

// reply has the mark of what it says, be that right or not.
func reply(node, client, stamp int, a impl.Answer) impl.Reply {
	return marked(impl.Reply{Node: node, Client: client, Stamp: stamp, Answer: a})
}

func marked(r impl.Reply) impl.Reply {
	r.Mac = ownReplyMark(r)
	return r
}

func ownReplyOK(nodes int, r impl.Reply) bool {
	_, known := ownFaults[nodes]
	return known && r.Node < nodes && inBounds(r) && r.Mac == ownReplyMark(r)
}

// someAnswers are right answers of every kind, their numbers at the bounds and within.
func someAnswers() []impl.Answer {
	var list []impl.Answer
	for kind := impl.AnOK; kind <= impl.AnTwice; kind++ {
		list = append(list, told(kind, 0, -1, 0), told(kind, topNext, 255, topExpiry), told(kind, 66051, 7, 16909060), told(kind, kind, 0, kind))
	}
	return list
}

func rightReply() impl.Reply { return reply(2, 7, 300, told(impl.AnWait, 66051, 9, 16909060)) }

// askReply holds every function of one reply to what the reply says, for all numbers of nodes.
func askReply(t *testing.T, what string, r impl.Reply) {
	t.Helper()
	want, wantCode := impl.Reply{}, impl.ErrBad
	if inBounds(r) {
		want, wantCode = marked(r), impl.OK
	}
	mac, code := impl.ReplyMac(r)
	askText(t, "ReplyMac, "+what, mac, code, want.Mac, wantCode)
	made, code := impl.MakeReply(r.Node, r.Client, r.Stamp, r.Answer)
	if made != want || code != wantCode {
		t.Errorf("MakeReply, %s: %x %d, not %x %d", what, made, code, want, wantCode)
	}
	for _, nodes := range append(noNodes(), nodeCounts...) {
		if got := impl.ReplyOK(nodes, r); got != ownReplyOK(nodes, r) {
			t.Errorf("ReplyOK of %d, %.120s: %v", nodes, what, got)
		}
		if got := impl.ReplyOK(nodes, made); got != ownReplyOK(nodes, want) {
			t.Errorf("ReplyOK of %d, made, %.120s: %v", nodes, what, got)
		}
	}
	if ownReplyOK(1, r) {
		askCounted(t, what, 1, r.Client, r.Stamp, []impl.Reply{r}, r.Answer)
	} else {
		askNotCounted(t, what, 1, r.Client, r.Stamp, []impl.Reply{r}, impl.ErrQuorum)
	}
}

func TestReplyMarksWrittenOut(t *testing.T) {
	known := []struct {
		reply impl.Reply
		bytes string
	}{
		{impl.Reply{Node: 2, Client: 1, Stamp: 3, Answer: told(impl.AnOK, 1, -1, 258)}, "reply\x01\x00\x03\x01\x00\x00\x01\x00\x00\x00\x00\x01\x02"},
		{impl.Reply{Node: 0, Client: 0, Stamp: 1, Answer: told(impl.AnFree, 0, 0, 0)}, "reply\x00\x00\x01\x04\x00\x00\x00\x00\x01\x00\x00\x00\x00"},
		{impl.Reply{Node: 6, Client: 255, Stamp: 65535, Answer: told(impl.AnTwice, 1000000, 255, 2000000000)}, "reply\xff\xff\xff\x08\x0f\x42\x40\x01\x00\x77\x35\x94\x00"},
		{impl.Reply{Node: 5, Client: 10, Stamp: 258, Answer: told(impl.AnWait, 66051, 11, 16909060)}, "reply\x0a\x01\x02\x02\x01\x02\x03\x00\x0c\x01\x02\x03\x04"},
	}
	for _, row := range known {
		secret := sha("node key" + string([]byte{byte(row.reply.Node)}))
		want := row.reply
		want.Mac = sha(secret + row.bytes)[:8]
		mac, code := impl.ReplyMac(row.reply)
		askText(t, fmt.Sprintf("ReplyMac %v", row.reply), mac, code, want.Mac, impl.OK)
		got, code := impl.MakeReply(row.reply.Node, row.reply.Client, row.reply.Stamp, row.reply.Answer)
		if got != want || code != impl.OK || !impl.ReplyOK(7, want) {
			t.Errorf("MakeReply %x %d, not %x", got, code, want)
		}
		askReply(t, fmt.Sprintf("%v", row.reply), want)
	}
}

// Each number at its bounds and beyond them by itself, with the mark of what is said then.
func TestReplyNumbers(t *testing.T) {
	for _, f := range replyFields() {
		for _, node := range []int{0, 3, 6} {
			for _, n := range f.numbers() {
				r := rightReply()
				r.Node = node
				*f.at(&r) = n
				what := fmt.Sprint(f.name, " ", n, " of node ", node)
				askReply(t, what, marked(r))
				askReply(t, what+", without a mark", r)
			}
		}
	}
}

func TestReplyNumbersTogether(t *testing.T) {
	for _, f := range replyFields() {
		for _, g := range replyFields() {
			for _, n := range []int{f.least - 1, f.least, f.most, f.most + 1} {
				for _, m := range []int{g.least - 1, g.least, g.most, g.most + 1} {
					r := reply(0, 7, 300, told(impl.AnHeld, 5, 9, 70))
					*f.at(&r), *g.at(&r) = n, m
					askReply(t, fmt.Sprint(f.name, " ", n, ", ", g.name, " ", *g.at(&r)), marked(r))
				}
			}
		}
	}
}

func TestRepliesOfEveryNodeAndAnswer(t *testing.T) {
	for node := -1; node <= 7; node++ {
		for i, a := range append(someAnswers(), impl.Answer{}, told(0, 1, 1, 1), told(9, 1, 1, 1), told(impl.AnOK, 1, -2, 1)) {
			client, stamp := []int{0, 7, 255}[i%3], []int{1, 300, 65535}[i%3]
			askReply(t, fmt.Sprint("node ", node, " ", a), reply(node, client, stamp, a))
		}
	}
	askReply(t, "nothing at all", impl.Reply{})
}

// Nothing is made for numbers of nodes: a reply is right where its Node is one of them.
func TestMadeRepliesAreRightWhereTheirNodeIs(t *testing.T) {
	for node := range 7 {
		r, code := impl.MakeReply(node, 10, 1, told(impl.AnOK, 1, 10, 30))
		if code != impl.OK {
			t.Fatal(node, code)
		}
		for nodes := -2; nodes <= 12; nodes++ {
			want := (nodes == 1 || nodes == 4 || nodes == 7) && node < nodes
			if got := impl.ReplyOK(nodes, r); got != want {
				t.Errorf("ReplyOK of %d, node %d: %v", nodes, node, got)
			}
		}
	}
}

// otherReplyMacs are marks that are not a reply's own.
func otherReplyMacs(r impl.Reply) []string {
	right, a := ownReplyMark(r), r.Answer
	tail := one(r.Client) + two(r.Stamp) + one(a.Kind) + three(a.Token) + two(a.Holder+1) + four(a.Expiry)
	list := []string{
		"", right[:1], right[:7], right + "\x00", right + right, right[1:] + right[:1], strings.Repeat("\x00", 8), longText(),
		fmt.Sprintf("%x", right), sha(sha("node key", one(r.Node)), "reply", tail), sha("reply", tail)[:8], sha(sha("node key", one(r.Node)), "reply", tail)[8:16],
		ownMark(r.Node, tail), ownMark(r.Node, "answer"+tail), ownMark(r.Node, "reply"+tail+"\x00"), ownMark(r.Node, "reply"+tail[1:]), ownMark(r.Node, "reply"),
		ownMark(r.Node, "reply"+one(r.Client)+two(r.Stamp)+one(a.Kind)+three(a.Token)+two(a.Holder)+four(a.Expiry)),
		ownMark(r.Node, "reply"+one(r.Node)+tail), ownMark(r.Node, "reply"+two(r.Stamp)+one(r.Client)+tail[3:]),
	}
	for _, f := range replyFields() {
		for _, by := range []int{-1, 1, 2} {
			other := r
			*f.at(&other) += by
			list = append(list, ownReplyMark(other))
		}
	}
	for at := range 64 {
		b := []byte(right)
		b[at/8] ^= 1 << (at % 8)
		list = append(list, string(b))
	}
	return slices.DeleteFunc(list, func(mac string) bool { return mac == right })
}

// What a reply's own Mac holds has no weight for its mark, and all for whether it is right.
func TestRepliesOfOtherMacs(t *testing.T) {
	replies := []impl.Reply{rightReply(), reply(0, 0, 1, told(impl.AnFree, 0, -1, 0)), reply(6, 255, 65535, told(impl.AnTwice, topNext, 255, topExpiry)), reply(3, 7, 300, told(9, 1, 1, 1))}
	for i, right := range replies {
		for _, mac := range otherReplyMacs(right) {
			r := right
			r.Mac = mac
			askReply(t, fmt.Sprintf("reply %d with %.20x", i, mac), r)
		}
	}
}

// Whatever is changed behind the mark, the mark is another's then.
func TestRepliesChangedBehindTheirMark(t *testing.T) {
	for _, right := range []impl.Reply{rightReply(), reply(0, 0, 1, told(impl.AnFree, 0, -1, 0)), reply(3, 255, 65535, told(impl.AnTwice, topNext, 255, topExpiry))} {
		for _, f := range replyFields() {
			for _, n := range f.numbers() {
				r := right
				*f.at(&r) = n
				askReply(t, fmt.Sprint(saidText([]impl.Reply{right}), " with ", f.name, " ", n), r)
				for _, nodes := range nodeCounts {
					if impl.ReplyOK(nodes, r) && r != right {
						t.Errorf("ReplyOK of %d, %x with %s %d", nodes, right, f.name, n)
					}
				}
			}
		}
	}
}

// Marks of different replies are different, so that none can be told as another's.
func TestReplyMarksTellApart(t *testing.T) {
	seen := map[string]impl.Reply{}
	for node := range 7 {
		for _, client := range []int{0, 1, 255} {
			for _, stamp := range []int{1, 2, 256, 65535} {
				for _, a := range someAnswers() {
					r, code := impl.MakeReply(node, client, stamp, a)
					mac := r.Mac
					r.Mac = ""
					if other, known := seen[mac]; known && other != r || code != impl.OK {
						t.Errorf("%v %d has the mark of %v", r, code, other)
					}
					seen[mac] = r
				}
			}
		}
	}
}
