package tests

import (
	"fmt"
	"slices"
	"strings"
	"testing"

	"loop.example/g00292/impl"
)

func commit(from, view, seq int, body string) impl.Message {
	return signed(from, impl.Message{Kind: impl.PbCommit, View: view, Seq: seq, Digest: ownDigest(body)})
}

func proposed(from, view, seq int, body string) impl.Message {
	return signed(from, impl.Message{Kind: impl.PbPrePrepare, View: view, Seq: seq, Digest: ownDigest(body), Body: body})
}

// begun is a new view of that node, signed, of these messages, be they right or not.
func begun(from, view int, list ...impl.Message) impl.Message {
	var texts []string
	for _, m := range list {
		texts = append(texts, ownUnsigned(m)+m.Mac)
	}
	return begunOf(from, view, ownList(texts...))
}

func begunOf(from, view int, body string) impl.Message {
	return signed(from, impl.Message{Kind: impl.PbNewView, View: view, Body: body})
}

// fresh is a new replica, put together here.
func fresh(nodes, id int) impl.Replica {
	return impl.Replica{Id: id, Nodes: nodes, Active: true, Slots: make([]impl.Slot, 8), Certs: make([]impl.Cert, 8)}
}

// inView is a replica without anything in some view.
func inView(nodes, id, view int, active bool) impl.Replica {
	r := fresh(nodes, id)
	r.View, r.Active = view, active
	return r
}

// ownQuorum are the first nodes that are a quorum.
func ownQuorum(nodes int) []int { return []int{0, 1, 2, 3, 4}[:2*ownFaults[nodes]+1] }

// fullReplica has something in all of its lists, and as much as may be in some.
func fullReplica(nodes, id, view int) impl.Replica {
	r := inView(nodes, id, view, view%2 == 0)
	for at := range 8 {
		text := body(nodes, strings.Repeat("f", at+1))
		s := &r.Slots[at]
		s.Body, s.Sent, s.Done = text, at%2 == 0, at%3 == 0
		for node := range nodes {
			s.Prepares = append(s.Prepares, prepare(node, view, at+1, []string{text, null}[node%2]))
			s.Commits = append(s.Commits, commit(node, view, at+1, text))
		}
		r.Certs[at] = at8(nodes, max(0, view-at), at+1, text)
		r.Log = append(r.Log, text)
	}
	for node := range nodes {
		r.Changes = append(r.Changes, change(node, max(1, view), at8(nodes, 0, 3, null)))
	}
	return r
}

// at8 is at with another quorum for each place.
func at8(nodes, view, seq int, body string) impl.Cert {
	all := quorums(nodes)
	return cert(all[seq%len(all)], view, seq, body)
}

// halfReplica has gaps everywhere.
func halfReplica(nodes, id, view int) impl.Replica {
	r := inView(nodes, id, view, view%2 == 1)
	for _, at := range []int{0, 3, 6} {
		text := body(nodes, "half")
		s := &r.Slots[at]
		if at != 3 {
			s.Body = text
		}
		s.Prepares = append(s.Prepares, prepare(nodes-1, view, at+1, text))
		if nodes > 1 {
			s.Commits = append(s.Commits, commit(0, view, at+1, null), commit(nodes-2, view, at+1, text))
		}
		r.Certs[at] = at8(nodes, view, at+1, null)
	}
	r.Log = []string{null, body(nodes, "half")}
	if view < 20 {
		r.Changes = []impl.Message{change(nodes/2, view+1, at8(nodes, view, 2, null))}
	}
	return r
}

// someReplicas are right.
func someReplicas() []impl.Replica {
	var list []impl.Replica
	for _, nodes := range []int{1, 4, 7} {
		for _, id := range []int{0, nodes / 2, nodes - 1} {
			list = append(list, fresh(nodes, id), inView(nodes, id, 0, false), inView(nodes, id, 20, true), inView(nodes, id, 3, false))
		}
		for i, view := range []int{0, 1, 6, 9, 20} {
			list = append(list, fullReplica(nodes, i%nodes, view), halfReplica(nodes, (i+1)%nodes, view))
		}
	}
	return list
}

func copyReplica(r impl.Replica) impl.Replica {
	r.Slots, r.Certs = slices.Clone(r.Slots), slices.Clone(r.Certs)
	for at, s := range r.Slots {
		r.Slots[at].Prepares, r.Slots[at].Commits = slices.Clone(s.Prepares), slices.Clone(s.Commits)
	}
	for at, c := range r.Certs {
		r.Certs[at] = copyCert(c)
	}
	r.Log, r.Changes = slices.Clone(r.Log), slices.Clone(r.Changes)
	return r
}

func sameSlot(a, b impl.Slot) bool {
	return a.Body == b.Body && a.Sent == b.Sent && a.Done == b.Done &&
		slices.Equal(a.Prepares, b.Prepares) && slices.Equal(a.Commits, b.Commits)
}

func sameReplica(a, b impl.Replica) bool {
	return a.Id == b.Id && a.Nodes == b.Nodes && a.View == b.View && a.Active == b.Active &&
		slices.EqualFunc(a.Slots, b.Slots, sameSlot) && slices.EqualFunc(a.Certs, b.Certs, sameCert) &&
		slices.Equal(a.Log, b.Log) && slices.Equal(a.Changes, b.Changes)
}

// replicaText tells a replica in a few words.
func replicaText(r impl.Replica) string {
	text := fmt.Sprintf("replica %d of %d, view %d %v, %d logged, %d changes", r.Id, r.Nodes, r.View, r.Active, len(r.Log), len(r.Changes))
	for at, s := range r.Slots {
		if !sameSlot(s, impl.Slot{}) {
			text += fmt.Sprintf("; %d: %d bytes %d %d %v %v", at+1, len(s.Body), len(s.Prepares), len(s.Commits), s.Sent, s.Done)
		}
	}
	for at, c := range r.Certs {
		if len(c.Prepares) > 0 {
			text += fmt.Sprintf("; cert %d of view %d", at+1, c.Prepares[0].View)
		}
	}
	return text
}

// sentText tells messages in a few words.
func sentText(list []impl.Message) string {
	text := ""
	for _, m := range list {
		text += fmt.Sprintf(" [%d %d %d %d %x]", m.Kind, m.View, m.Seq, m.From, m.Mac)
	}
	return text
}

func askSameReplica(t *testing.T, what string, got, want impl.Replica) {
	t.Helper()
	if !sameReplica(got, want) {
		t.Errorf("%s: %s, not %s", what, replicaText(got), replicaText(want))
	}
}

// replicaSteps are the calls that answer a replica made of another one.
func replicaSteps(r impl.Replica) map[string]func(r impl.Replica) (impl.Replica, []impl.Message, int) {
	m := prepare(0, r.View, 1, null)
	return map[string]func(r impl.Replica) (impl.Replica, []impl.Message, int){
		"TakeMessage":          func(r impl.Replica) (impl.Replica, []impl.Message, int) { return impl.TakeMessage(r, m) },
		"TakeMessage, nothing": func(r impl.Replica) (impl.Replica, []impl.Message, int) { return impl.TakeMessage(r, impl.Message{}) },
		"ProposeBody":          func(r impl.Replica) (impl.Replica, []impl.Message, int) { return impl.ProposeBody(r, null) },
		"ProposeBody, nothing": func(r impl.Replica) (impl.Replica, []impl.Message, int) { return impl.ProposeBody(r, "") },
		"TimeoutReplica":       impl.TimeoutReplica,
	}
}

// askReplica holds ReplicaOK, and the calls that answer ErrBad of others, to whether a replica is right.
func askReplica(t *testing.T, what string, r impl.Replica, right bool) {
	t.Helper()
	ahead := copyReplica(r)
	if impl.ReplicaOK(r) != right {
		t.Errorf("ReplicaOK, %s, %s: %v", what, replicaText(r), !right)
	}
	for call, step := range replicaSteps(r) {
		got, sent, code := step(r)
		if (code != impl.ErrBad) != right {
			t.Errorf("%s, %s, %s: %d", call, what, replicaText(r), code)
		}
		if !right && (!sameReplica(got, impl.Replica{}) || len(sent) > 0) {
			t.Errorf("%s, %s: %s is answered, %d messages are sent", call, what, replicaText(got), len(sent))
		}
	}
	askSameReplica(t, what+", its argument", r, ahead)
}

func TestNewReplicas(t *testing.T) {
	for _, nodes := range append(noNodes(), 1, 4, 7) {
		_, known := ownFaults[nodes]
		for _, id := range append(edges(0, 6), 2, 3, 4, nodes-1, nodes, nodes+1, 256, 1<<32+1) {
			want, wantCode := impl.Replica{}, impl.ErrRange
			if known && id >= 0 && id < nodes {
				want, wantCode = fresh(nodes, id), impl.OK
			}
			got, code := impl.NewReplica(id, nodes)
			if code != wantCode {
				t.Errorf("NewReplica %d of %d: %d", id, nodes, code)
			}
			askSameReplica(t, fmt.Sprint("NewReplica ", id, " of ", nodes), got, want)
			if impl.ReplicaOK(got) != (wantCode == impl.OK) {
				t.Errorf("ReplicaOK of NewReplica %d of %d", id, nodes)
			}
		}
	}
	for nodes, ids := range map[int][2]int{1: {0, 1}, 4: {3, 4}, 7: {6, 7}} {
		last, code := impl.NewReplica(ids[0], nodes)
		if code != impl.OK || last.Id != ids[0] || last.Nodes != nodes || last.View != 0 || !last.Active || len(last.Slots) != impl.MaxSeq || len(last.Certs) != impl.MaxSeq || len(last.Log)+len(last.Changes) > 0 {
			t.Errorf("NewReplica %d of %d: %s %d", ids[0], nodes, replicaText(last), code)
		}
		if _, code := impl.NewReplica(ids[1], nodes); code != impl.ErrRange {
			t.Errorf("NewReplica %d of %d: %d", ids[1], nodes, code)
		}
	}
}

func TestReplicasThatAreRight(t *testing.T) {
	for i, r := range someReplicas() {
		askReplica(t, fmt.Sprint(i), r, true)
	}
	for nodes := range ownFaults {
		for _, view := range []int{0, 5, 20} {
			r := fullReplica(nodes, 0, view)
			r.Active = !r.Active
			askReplica(t, "Active or not", r, true)
			for at := range r.Slots {
				r.Slots[at].Sent, r.Slots[at].Done = !r.Slots[at].Sent, !r.Slots[at].Done
			}
			askReplica(t, "Sent and Done are its own word", r, true)
			for at := range r.Slots {
				r.Slots[at].Body = ""
			}
			askReplica(t, "votes without a Body", r, true)
			r.Certs, r.Log = make([]impl.Cert, 8), slices.Repeat([]string{null}, 8)
			askReplica(t, "a Log of its own", r, true)
			r.Changes = r.Changes[:nodes/2]
			askReplica(t, "some Changes", r, true)
		}
	}
}

// Nil and empty lists are the same value.
func TestReplicasOfEmptyLists(t *testing.T) {
	for i, r := range someReplicas() {
		for at := range r.Slots {
			if s := &r.Slots[at]; len(s.Prepares) == 0 {
				s.Prepares, s.Commits = []impl.Message{}, []impl.Message{}
			}
			if len(r.Certs[at].Prepares) == 0 {
				r.Certs[at].Prepares = []impl.Message{}
			}
		}
		r.Log, r.Changes = []string{}, []impl.Message{}
		askReplica(t, fmt.Sprint("empty lists ", i), r, true)
		r.Log, r.Changes = nil, nil
		askReplica(t, fmt.Sprint("nil lists ", i), r, true)
		none := copyReplica(r)
		none.Slots = nil
		askReplica(t, "nil Slots", none, false)
		none.Slots = []impl.Slot{}
		askReplica(t, "empty Slots", none, false)
		none = copyReplica(r)
		none.Certs = nil
		askReplica(t, "nil Certs", none, false)
		none.Certs = []impl.Cert{}
		askReplica(t, "empty Certs", none, false)
	}
	askReplica(t, "nothing", impl.Replica{}, false)
	askReplica(t, "nothing of a node", impl.Replica{Nodes: 1, Active: true}, false)
}

// askBroken holds a right replica that was changed to being right no more, or still.
func askBroken(t *testing.T, what string, r impl.Replica, right bool, breaks func(r *impl.Replica)) {
	t.Helper()
	x := copyReplica(r)
	breaks(&x)
	askReplica(t, what, x, right)
}

func TestReplicasOfOtherNumbers(t *testing.T) {
	for nodes := range ownFaults {
		empty := fresh(nodes, 0)
		for _, id := range append(edges(0, 6), nodes-1, nodes, 256, 1<<32) {
			askBroken(t, fmt.Sprint("Id ", id), empty, id >= 0 && id < nodes, func(r *impl.Replica) { r.Id = id })
			askBroken(t, fmt.Sprint("Id ", id), fullReplica(nodes, 0, 2), id >= 0 && id < nodes, func(r *impl.Replica) { r.Id = id })
		}
		for _, other := range append(noNodes(), 1, 4, 7) {
			_, known := ownFaults[other]
			askBroken(t, fmt.Sprint("Nodes ", other), empty, known, func(r *impl.Replica) { r.Nodes = other })
			askBroken(t, fmt.Sprint("Nodes ", other), fullReplica(nodes, 0, 2), other == nodes, func(r *impl.Replica) { r.Nodes = other })
		}
		for _, view := range append(edges(0, 20), 256) {
			askBroken(t, fmt.Sprint("View ", view), empty, view >= 0 && view <= 20, func(r *impl.Replica) { r.View = view })
			askBroken(t, fmt.Sprint("View ", view), fullReplica(nodes, 0, 2), view == 2, func(r *impl.Replica) { r.View = view })
		}
	}
}

func TestReplicasOfOtherCounts(t *testing.T) {
	for nodes := range ownFaults {
		for _, r := range []impl.Replica{fresh(nodes, 0), fullReplica(nodes, 0, 8)} {
			for _, count := range []int{1, 7, 8, 9, 16, 100, impl.MaxList + 1} {
				slots, certs := make([]impl.Slot, count), make([]impl.Cert, count)
				copy(slots, r.Slots)
				copy(certs, r.Certs)
				askBroken(t, fmt.Sprint(count, " Slots"), r, count == 8, func(r *impl.Replica) { r.Slots = slots })
				askBroken(t, fmt.Sprint(count, " Certs"), r, count == 8, func(r *impl.Replica) { r.Certs = certs })
			}
			for _, count := range []int{0, 1, 7, 8, 9, 10, 100, 101, impl.MaxList + 1} {
				for _, text := range []string{null, body(nodes, "door")} {
					askBroken(t, fmt.Sprint("a Log of ", count), r, count <= 8, func(r *impl.Replica) { r.Log = slices.Repeat([]string{text}, count) })
				}
			}
		}
	}
}

// wrongBodies are not right for that number of nodes; an empty one is none at all.
func wrongBodies(nodes int) []string {
	right := body(nodes, "door")
	unsigned := readingsOf(ownQuorum(nodes), []int{5})
	unsigned[0].Mac = mac
	list := []string{"x", "\x01", "\x00\x00", right + null, right[1:], right[:len(right)-1], readBody("a", nil), readBody("9", readingsOf(ownQuorum(nodes), []int{5})), readBody("a", unsigned),
		strings.Repeat(null, impl.MaxBody), strings.Repeat(null, impl.MaxBody+1), strings.Repeat("a", impl.MaxText)}
	for other := range ownFaults {
		if other != nodes {
			list = append(list, body(other, "door"))
		}
	}
	return list
}

func TestReplicasOfOtherBodies(t *testing.T) {
	for nodes := range ownFaults {
		r := fullReplica(nodes, 0, 4)
		r.Certs, r.Changes = make([]impl.Cert, 8), nil
		for at := range 8 {
			for i, text := range append(wrongBodies(nodes), longText()) {
				askBroken(t, fmt.Sprint("Slot ", at, " body ", i), r, false, func(r *impl.Replica) { r.Slots[at].Body = text })
				askBroken(t, fmt.Sprint("Log ", at, " body ", i), r, false, func(r *impl.Replica) { r.Log[at] = text })
			}
			askBroken(t, "no body in the Log", r, false, func(r *impl.Replica) { r.Log[at] = "" })
			for _, text := range []string{"", null, body(nodes, "other")} {
				askBroken(t, "another right body", r, true, func(r *impl.Replica) { r.Slots[at].Body = text })
			}
		}
		for i, text := range wrongBodies(nodes) {
			askBroken(t, fmt.Sprint("the first and only body ", i), fresh(nodes, 0), false, func(r *impl.Replica) { r.Log = []string{text} })
		}
	}
}

// votesAt are the two lists of votes of a Slot.
func votesAt(s *impl.Slot) []*[]impl.Message { return []*[]impl.Message{&s.Prepares, &s.Commits} }

func TestReplicasOfOtherVotes(t *testing.T) {
	for nodes := range ownFaults {
		r := fullReplica(nodes, 0, 4)
		r.Certs, r.Changes = make([]impl.Cert, 8), nil
		for _, at := range []int{0, 3, 7} {
			for list := range 2 {
				for i, m := range *votesAt(&r.Slots[at])[list] {
					breakVote := func(what string, right bool, x impl.Message) {
						askBroken(t, fmt.Sprint(what, " at ", at, " ", list, " ", i), r, right, func(r *impl.Replica) { (*votesAt(&r.Slots[at])[list])[i] = x })
					}
					for k, x := range changed(m) {
						if i == 0 && k%5 == at%5 || k < 30 {
							breakVote(fmt.Sprint("changed ", k), x == m, x)
						}
					}
					kind, view, seq, digest := m, m, m, m
					kind.Kind = impl.PbPrepare + impl.PbCommit - m.Kind
					digest.Digest = sha("another")
					breakVote("another kind", false, signed(m.From, kind))
					breakVote("a proposal", false, proposed(m.From, m.View, m.Seq, null))
					breakVote("a change", false, change(m.From, m.View))
					breakVote("nothing", false, impl.Message{})
					breakVote("another digest", true, signed(m.From, digest))
					for _, by := range []int{-1, 1} {
						view.View, seq.Seq = m.View+by, (m.Seq+by+7)%8+1
						breakVote("another View", false, signed(m.From, view))
						breakVote("another Seq", seq.Seq == m.Seq, signed(m.From, seq))
					}
					breakVote("a node that is none", false, signed(nodes, m))
				}
			}
		}
	}
}

func TestReplicasOfVotesInOtherOrders(t *testing.T) {
	for _, nodes := range []int{1, 4, 7} {
		r := fullReplica(nodes, 0, 4)
		for list := range 2 {
			all := *votesAt(&r.Slots[2])[list]
			set := func(what string, right bool, votes []impl.Message) {
				askBroken(t, fmt.Sprint(what, " ", list), r, right, func(r *impl.Replica) { *votesAt(&r.Slots[2])[list] = votes })
			}
			for i := range nodes {
				set("alike", false, slices.Insert(slices.Clone(all), i, all[i]))
				set("one fewer", true, slices.Delete(slices.Clone(all), i, i+1))
				for j := range i {
					swapped, alike := slices.Clone(all), slices.Clone(all)
					swapped[i], swapped[j] = all[j], all[i]
					alike[i] = all[j]
					set("not rising", false, swapped)
					set("of one node", false, alike)
				}
			}
			set("many", false, slices.Repeat(all, 100))
			set("of the other list", false, *votesAt(&r.Slots[2])[1-list])
			set("of another Slot", false, *votesAt(&r.Slots[3])[list])
		}
	}
}

func TestReplicasOfOtherCerts(t *testing.T) {
	for nodes := range ownFaults {
		r := halfReplica(nodes, 0, 4)
		for at := range 8 {
			set := func(what string, right bool, c impl.Cert) {
				askBroken(t, fmt.Sprint(what, " at ", at), r, right, func(r *impl.Replica) { r.Certs[at] = c })
			}
			for seq := 1; seq <= 8; seq++ {
				set("another Seq", seq == at+1, at8(nodes, 2, seq, null))
			}
			for view := range 21 {
				set(fmt.Sprint("View ", view), view <= 4, at8(nodes, view, at+1, null))
			}
			set("empty", true, impl.Cert{})
			set("a Body alone", false, impl.Cert{Body: null})
			right := at8(nodes, 2, at+1, body(nodes, "door"))
			set("Prepares alone", false, impl.Cert{Prepares: right.Prepares})
			less, more := copyCert(right), copyCert(right)
			less.Prepares = less.Prepares[1:]
			more.Prepares = append(more.Prepares, prepare(nodes-1, 2, at+1, right.Body))
			set("one fewer", false, less)
			set("one more", false, more)
			for i, c := range wrongCerts(nodes)[1:] {
				set(fmt.Sprint("wrong ", i), false, c)
			}
		}
		askBroken(t, "two alike", fresh(nodes, 0), false, func(r *impl.Replica) { r.Certs[0], r.Certs[1] = at(nodes, 0, 1, null), at(nodes, 0, 1, null) })
	}
}

func TestReplicasOfOtherChanges(t *testing.T) {
	for _, nodes := range []int{1, 4, 7} {
		r := halfReplica(nodes, 0, 4)
		set := func(what string, right bool, list ...impl.Message) {
			t.Helper()
			askBroken(t, what, r, right, func(r *impl.Replica) { r.Changes = list })
			askBroken(t, what, r, right, func(r *impl.Replica) { r.Changes, r.Active = list, !r.Active })
		}
		for from := range nodes {
			for view := range 21 {
				set(fmt.Sprint("View ", view), view >= 4, change(from, view))
				set(fmt.Sprint("View ", view), view >= 4, change(from, view, at8(nodes, 3, 2, null)))
				set(fmt.Sprint("certs of View ", view), view < 9, change(from, 9, at8(nodes, view, 2, null)))
			}
			set("not signed", false, impl.Message{Kind: impl.PbViewChange, View: 5, From: from, Body: null, Mac: mac})
			set("no list", false, changeOf(from, 5, "x"))
			set("nothing", false, impl.Message{})
			set("a new view", false, begun(from, 5))
			set("a vote", false, prepare(from, 5, 1, null))
			for i, c := range wrongCerts(nodes) {
				set(fmt.Sprint("wrong certs ", i), false, change(from, 5, c))
			}
			set("alike", false, change(from, 5), change(from, 5))
			set("of one node", false, change(from, 5), change(from, 5, at8(nodes, 3, 2, null)))
			set("a node that is none", false, change(nodes, 5))
			for other := range from {
				set("rising", true, change(other, 5), change(from, 5))
				set("not rising", false, change(from, 5), change(other, 5))
				set("of two Views", false, change(other, 5), change(from, 6))
				set("of two Views", false, change(other, 6), change(from, 5))
				set("of the own View and of another", false, change(other, 4), change(from, 5))
			}
		}
		all := changes([]int{0, 1, 2, 3, 4, 5, 6}[:nodes], 5)
		set("all", true, all...)
		set("more than nodes", false, append(slices.Clone(all), change(nodes, 5))...)
		set("more than nodes", false, append(slices.Clone(all), all[nodes-1])...)
		set("more than nodes", false, slices.Insert(slices.Clone(all), 0, all[0])...)
	}
	askBroken(t, "a change to View 0", inView(4, 0, 0, false), false, func(r *impl.Replica) { r.Changes = []impl.Message{change(1, 0)} })
}
