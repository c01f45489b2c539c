package tests

import (
	"fmt"
	"slices"
	"testing"

	"loop.example/g00292/impl"
)

// castKey is who voted where, and with what kind of vote.
type castKey struct{ kind, seq, from int }

// ownReplica does what the document says of replicas on maps.
type ownReplica struct {
	id, nodes, view int
	active          bool
	bodies          map[int]string
	casts           map[castKey]impl.Message
	sent, done      map[int]bool
	certs           map[int]impl.Cert
	log             []string
	changes         map[int]impl.Message
	out             []impl.Message
}

func newOwnReplica(nodes, id int) *ownReplica {
	x := &ownReplica{id: id, nodes: nodes, active: true, certs: map[int]impl.Cert{}, changes: map[int]impl.Message{}}
	x.empty()
	return x
}

func (x *ownReplica) empty() {
	x.bodies, x.casts, x.sent, x.done = map[int]string{}, map[castKey]impl.Message{}, map[int]bool{}, map[int]bool{}
}

func (x *ownReplica) votes(kind, seq int) []impl.Message {
	var list []impl.Message
	for from := range 7 {
		if m, ok := x.casts[castKey{kind, seq, from}]; ok {
			list = append(list, m)
		}
	}
	return list
}

func (x *ownReplica) changeList() []impl.Message {
	var list []impl.Message
	for from := range 7 {
		if m, ok := x.changes[from]; ok {
			list = append(list, m)
		}
	}
	return list
}

func (x *ownReplica) replica() impl.Replica {
	r := inView(x.nodes, x.id, x.view, x.active)
	for at := range 8 {
		r.Slots[at] = impl.Slot{Body: x.bodies[at+1], Sent: x.sent[at+1], Done: x.done[at+1], Prepares: x.votes(impl.PbPrepare, at+1), Commits: x.votes(impl.PbCommit, at+1)}
		r.Certs[at] = x.certs[at+1]
	}
	r.Log, r.Changes = x.log, x.changeList()
	return r
}

func (x *ownReplica) send(m impl.Message) {
	m = signed(x.id, m)
	x.out = append(x.out, m)
	x.take(m)
}

// votesFor are so many first votes for a batch as are a quorum, none if there are fewer.
func (x *ownReplica) votesFor(kind, seq int, digest string) []impl.Message {
	list := slices.DeleteFunc(x.votes(kind, seq), func(m impl.Message) bool { return m.Digest != digest })
	if quorum := 2*ownFaults[x.nodes] + 1; len(list) >= quorum {
		return list[:quorum]
	}
	return nil
}

func (x *ownReplica) look(seq int) {
	text, held := x.bodies[seq]
	if !held {
		return
	}
	digest := ownDigest(text)
	if list := x.votesFor(impl.PbPrepare, seq, digest); list != nil && !x.sent[seq] {
		x.sent[seq] = true
		x.certs[seq] = impl.Cert{Body: text, Prepares: list}
		x.send(impl.Message{Kind: impl.PbCommit, View: x.view, Seq: seq, Digest: digest})
	}
	if x.votesFor(impl.PbCommit, seq, digest) != nil {
		x.done[seq] = true
	}
	for x.done[len(x.log)+1] {
		x.log = append(slices.Clone(x.log), x.bodies[len(x.log)+1])
	}
}

func (x *ownReplica) hold(seq int, text string) {
	x.bodies[seq] = text
	x.send(impl.Message{Kind: impl.PbPrepare, View: x.view, Seq: seq, Digest: ownDigest(text)})
	x.look(seq)
}

func (x *ownReplica) begin(view int, plan []string) {
	x.view, x.active = view, true
	x.empty()
	x.changes = map[int]impl.Message{}
	for at, text := range plan {
		x.hold(at+1, text)
	}
}

func (x *ownReplica) take(m impl.Message) int {
	switch {
	case !impl.MessageOK(m) || m.From >= x.nodes || m != signed(m.From, m):
		return impl.ErrSigned
	case m.Kind <= impl.PbCommit && (m.View != x.view || !x.active):
		return impl.ErrView
	case m.Kind > impl.PbCommit && (m.View < x.view || m.View == x.view && x.active):
		return impl.ErrView
	case m.Kind == impl.PbPrePrepare:
		return x.takeProposal(m)
	case m.Kind == impl.PbViewChange:
		return x.takeChange(m)
	case m.Kind == impl.PbNewView:
		return x.takeBegun(m)
	}
	key := castKey{m.Kind, m.Seq, m.From}
	if _, there := x.casts[key]; there {
		return impl.ErrTwice
	}
	x.casts[key] = m
	x.look(m.Seq)
	return impl.OK
}

func (x *ownReplica) takeProposal(m impl.Message) int {
	text, held := x.bodies[m.Seq]
	switch {
	case m.From != m.View%x.nodes:
		return impl.ErrPrimary
	case m.Digest != ownDigest(m.Body) || !impl.BodyOK(x.nodes, m.Body):
		return impl.ErrForm
	case held && text == m.Body:
		return impl.ErrTwice
	case held:
		return impl.ErrHeld
	case m.From != x.id:
		x.hold(m.Seq, m.Body)
	}
	return impl.OK
}

func (x *ownReplica) takeChange(m impl.Message) int {
	if _, code := impl.ViewCerts(x.nodes, m); code != impl.OK {
		return impl.ErrSigned
	}
	for from, other := range x.changes {
		if other.View > m.View {
			return impl.ErrLate
		}
		if other.View == m.View && from == m.From {
			return impl.ErrTwice
		}
	}
	x.dropBelow(m.View)
	x.changes[m.From] = m
	quorum := 2*ownFaults[x.nodes] + 1
	if list := x.changeList(); m.View%x.nodes == x.id && len(list) >= quorum {
		plan, _ := impl.PlanOf(x.nodes, m.View, list[:quorum])
		x.out = append(x.out, begun(x.id, m.View, list[:quorum]...))
		x.begin(m.View, plan)
	}
	return impl.OK
}

func (x *ownReplica) dropBelow(view int) {
	for from, m := range x.changes {
		if m.View < view {
			delete(x.changes, from)
		}
	}
}

func (x *ownReplica) takeBegun(m impl.Message) int {
	if m.From != m.View%x.nodes {
		return impl.ErrPrimary
	}
	texts, code := impl.ReadList([]byte(m.Body))
	if code != impl.OK {
		return impl.ErrSigned
	}
	var list []impl.Message
	for _, text := range texts {
		change, _ := impl.ReadMessage([]byte(text))
		list = append(list, change)
	}
	plan, code := impl.PlanOf(x.nodes, m.View, list)
	if code != impl.OK {
		return impl.ErrSigned
	}
	x.begin(m.View, plan)
	return impl.OK
}

func (x *ownReplica) propose(text string) int {
	switch {
	case !impl.BodyOK(x.nodes, text):
		return impl.ErrForm
	case !x.active || x.view%x.nodes != x.id:
		return impl.ErrPrimary
	case len(x.bodies) == 8:
		return impl.ErrFull
	}
	seq := 1
	for x.bodies[seq] != "" {
		seq++
	}
	x.send(impl.Message{Kind: impl.PbPrePrepare, View: x.view, Seq: seq, Digest: ownDigest(text), Body: text})
	x.hold(seq, text)
	return impl.OK
}

func (x *ownReplica) timeout() int {
	if x.view == 20 {
		return impl.ErrRange
	}
	x.view, x.active = x.view+1, false
	x.empty()
	x.dropBelow(x.view)
	x.send(change(x.id, x.view, ownCerts(x.replica())...))
	return impl.OK
}

// follower is a replica on its way, with all that it voted for.
type follower struct {
	impl.Replica
	voted map[[2]int]string // by View and Seq
	own   *ownReplica
	tally map[string]int
}

func follow(nodes, id int) *follower {
	return &follower{Replica: fresh(nodes, id), voted: map[[2]int]string{}, own: newOwnReplica(nodes, id), tally: map[string]int{}}
}

// goOn does a step, holds what is promised of it, and holds it to what ownReplica does. It answers what was sent.
func (f *follower) goOn(t *testing.T, what string, step func(impl.Replica) (impl.Replica, []impl.Message, int), own func(*ownReplica) int) []impl.Message {
	t.Helper()
	got, sent, code := step(f.Replica)
	f.askPromised(t, what, got, sent, code)
	f.own.out = nil
	wantCode := own(f.own)
	if code != wantCode || !slices.Equal(sent, f.own.out) {
		t.Fatalf("%s, %s: %d%s, not %d%s", what, replicaText(f.Replica), code, sentText(sent), wantCode, sentText(f.own.out))
	}
	if want := f.own.replica(); !sameReplica(got, want) {
		t.Fatalf("%s, %s: %s, not %s", what, replicaText(f.Replica), replicaText(got), replicaText(want))
	}
	f.count(got, code)
	f.Replica = got
	return sent
}

// askPromised holds promise 9 for one step.
func (f *follower) askPromised(t *testing.T, what string, got impl.Replica, sent []impl.Message, code int) {
	t.Helper()
	if !impl.ReplicaOK(got) {
		t.Fatalf("%s, %s: %s is not right", what, replicaText(f.Replica), replicaText(got))
	}
	if got.View < f.View || got.Id != f.Id || got.Nodes != f.Nodes {
		t.Fatalf("%s, %s: %s", what, replicaText(f.Replica), replicaText(got))
	}
	if len(got.Log) < len(f.Log) || !slices.Equal(got.Log[:len(f.Log)], f.Log) {
		t.Fatalf("%s, %s: the Log has not only grown: %s", what, replicaText(f.Replica), replicaText(got))
	}
	if code != impl.OK && (len(sent) > 0 || !sameReplica(got, f.Replica)) {
		t.Fatalf("%s, %s: %d, and yet %s%s", what, replicaText(f.Replica), code, replicaText(got), sentText(sent))
	}
	for _, m := range sent {
		if m.From != f.Id || !impl.MessageSigned(f.Nodes, m) || m.View > got.View {
			t.Fatalf("%s: what is sent is not its own%s", what, sentText(sent))
		}
		if m.Kind > impl.PbCommit {
			continue
		}
		key := [2]int{m.View, m.Seq}
		if other, ok := f.voted[key]; ok && other != m.Digest {
			t.Fatalf("%s: two votes for different batches of View %d and Seq %d", what, m.View, m.Seq)
		}
		f.voted[key] = m.Digest
	}
}

// count tells later whether the runs came by what they are for.
func (f *follower) count(got impl.Replica, code int) {
	f.tally[impl.CodeWord(code)]++
	f.tally["logged"] += len(got.Log) - len(f.Log)
	if got.View > f.View {
		f.tally["views"]++
	}
	if got.View > f.View && got.Active {
		f.tally["begun"]++
	}
}

func (f *follower) take(t *testing.T, what string, m impl.Message) []impl.Message {
	t.Helper()
	return f.goOn(t, what, func(r impl.Replica) (impl.Replica, []impl.Message, int) { return impl.TakeMessage(r, m) }, func(x *ownReplica) int { return x.take(m) })
}

func (f *follower) propose(t *testing.T, text string) []impl.Message {
	t.Helper()
	return f.goOn(t, "ProposeBody", func(r impl.Replica) (impl.Replica, []impl.Message, int) { return impl.ProposeBody(r, text) }, func(x *ownReplica) int { return x.propose(text) })
}

func (f *follower) timeout(t *testing.T) []impl.Message {
	t.Helper()
	return f.goOn(t, "TimeoutReplica", impl.TimeoutReplica, (*ownReplica).timeout)
}

// drawBody is mostly the batch that most speak for at that place, sometimes another.
func drawBody(d *drawn, nodes, view, seq int) string {
	at := view/3 + seq
	if d.below(8) == 0 {
		at += d.below(3)
	}
	return []string{body(nodes, "a"), body(nodes, "bb"), null}[at%3]
}

// drawMessage draws a message that the replica may well take, and now and then one that it must not.
func drawMessage(d *drawn, r impl.Replica) impl.Message {
	view := r.View
	if d.below(8) == 0 {
		view = max(0, min(20, view+d.below(4)-1))
	}
	from, seq := d.below(r.Nodes), 1+d.below(1+d.below(4))
	if d.below(30) == 0 {
		seq = 1 + d.below(8)
	}
	text := drawBody(d, r.Nodes, view, seq)
	switch d.below(24) {
	case 0, 1, 2, 3:
		if d.below(4) > 0 {
			from = view % r.Nodes
		}
		return proposed(from, view, seq, text)
	case 4, 5:
		return drawnChange(d, r, from)
	case 6:
		return drawnBegun(d, r)
	case 7:
		return proposed(view%r.Nodes, view, seq, []string{"x", "\x00\x00", body(1, "door"), body(7, "door")}[d.below(4)])
	case 8, 9, 10, 11, 12, 13, 14:
		return commit(from, view, seq, text)
	}
	return prepare(from, view, seq, text)
}

// nextView is one that may be begun, mostly.
func nextView(d *drawn, r impl.Replica) int {
	if len(r.Changes) > 0 && d.below(3) > 0 {
		return r.Changes[0].View
	}
	return min(20, max(0, r.View+d.below(5)-1))
}

func drawnChange(d *drawn, r impl.Replica, from int) impl.Message {
	view := nextView(d, r)
	if d.below(12) == 0 {
		return changeOf(from, view, []string{"", "x", "\x01", ownList(ownCertBytes(at(r.Nodes, view, 1, null)))}[d.below(4)])
	}
	return change(from, view, drawChange(d, r.Nodes, max(1, view))...)
}

func drawnBegun(d *drawn, r impl.Replica) impl.Message {
	view := nextView(d, r)
	all := quorums(r.Nodes)
	var list []impl.Message
	for _, node := range all[d.below(len(all))] {
		list = append(list, change(node, view, drawChange(d, r.Nodes, max(1, view))...))
	}
	from := view % r.Nodes
	switch d.below(8) {
	case 0:
		from = d.below(r.Nodes)
	case 1:
		list = list[1:]
	case 2:
		list[0] = change(list[0].From, view+1)
	}
	return begun(from, view, list...)
}

// forge changes one field of a message and leaves its mark.
func forge(d *drawn, m impl.Message) impl.Message {
	list := changed(m)
	return list[d.below(len(list))]
}

// Promise 9: runs of drawn messages, some forged.
func TestDrawnMessages(t *testing.T) {
	total := map[string]int{}
	for run := range 100 {
		d := &drawn{seed: uint64(1000 * run)}
		nodes := []int{4, 7, 4, 1, 4}[run%5]
		f := follow(nodes, d.below(nodes))
		for step := range 160 {
			what := fmt.Sprint("run ", run, " step ", step)
			switch d.below(40) {
			case 0:
				if d.below(2) == 0 {
					f.timeout(t)
				}
			case 1, 2:
				f.propose(t, drawBody(d, nodes, f.View, 1+d.below(8)))
			case 3:
				f.propose(t, []string{"", "x", body(1, "door"), body(7, "door")}[d.below(4)])
			case 4, 5, 6, 7:
				m := drawMessage(d, f.Replica)
				x := forge(d, m)
				ahead := f.Replica
				sent := f.take(t, what+", forged", x)
				if x != m && (len(sent) > 0 || !sameReplica(f.Replica, ahead)) {
					t.Fatalf("%s: what is not signed changes %s", what, replicaText(f.Replica))
				}
			default:
				f.take(t, what, drawMessage(d, f.Replica))
			}
		}
		for word, count := range f.tally {
			total[word] += count
		}
	}
	for _, word := range []string{"ok", "signed", "view", "primary", "form", "twice", "held", "late", "range", "logged", "views", "begun"} {
		if total[word] < 5 {
			t.Errorf("the runs came by %q but %d times", word, total[word])
		}
	}
}

// oneLog fails unless all logs are beginnings of one.
func oneLog(t *testing.T, what string, all []*follower) {
	t.Helper()
	for _, a := range all {
		for _, b := range all {
			if least := min(len(a.Log), len(b.Log)); !slices.Equal(a.Log[:least], b.Log[:least]) {
				t.Fatalf("%s: the logs of %d and %d part", what, a.Id, b.Id)
			}
		}
	}
}

// parcel is what goes from one to another, in any order, perhaps twice, perhaps never.
type parcel struct {
	to      int
	message impl.Message
}

// Replicas among each other, none of which lies: their logs are beginnings of one log, whatever the wire does.
func TestReplicasAmongEachOther(t *testing.T) {
	total := map[string]int{}
	for run := range 36 {
		d := &drawn{seed: uint64(7000 + 100*run)}
		nodes := []int{4, 7, 4}[run%3]
		loss, patience := d.below(3), 30+d.below(120)
		var all []*follower
		var wire []parcel
		for id := range nodes {
			all = append(all, follow(nodes, id))
		}
		post := func(from int, sent []impl.Message) {
			for _, m := range sent {
				for to := range nodes {
					if to != from && d.below(20) >= loss {
						wire = append(wire, parcel{to, m})
					}
				}
			}
		}
		for step := range 300 {
			id := d.below(nodes)
			switch {
			case d.below(patience) == 0:
				for _, f := range all {
					if f.View <= all[id].View && d.below(4) > 0 {
						post(f.Id, f.timeout(t))
					}
				}
			case d.below(12) == 0 || len(wire) == 0:
				view := all[id].View
				post(view%nodes, all[view%nodes].propose(t, body(nodes, fmt.Sprint("n", step))))
			default:
				at := d.below(min(len(wire), 12))
				x := wire[at]
				if d.below(15) > 0 {
					wire = slices.Delete(wire, at, at+1)
				}
				post(x.to, all[x.to].take(t, fmt.Sprint("run ", run, " step ", step), x.message))
			}
			oneLog(t, fmt.Sprint("run ", run, " step ", step), all)
		}
		for _, f := range all {
			for word, count := range f.tally {
				total[word] += count
			}
		}
	}
	for _, word := range []string{"ok", "view", "twice", "late", "logged", "views", "begun"} {
		if total[word] < 5 {
			t.Errorf("the runs came by %q but %d times", word, total[word])
		}
	}
}

// With no faults, and all given, what a primary proposes is in all logs.
func TestReplicasThatAllHear(t *testing.T) {
	for _, nodes := range []int{1, 4, 7} {
		for _, views := range []int{0, 1, 3} {
			var all []*follower
			for id := range nodes {
				all = append(all, follow(nodes, id))
			}
			var wire []parcel
			settle := func(from int, sent []impl.Message) {
				wire = append(wire, parcelsOf(nodes, from, sent)...)
				for len(wire) > 0 {
					x := wire[0]
					wire = append(wire[1:], parcelsOf(nodes, x.to, all[x.to].take(t, "settle", x.message))...)
				}
			}
			var bodies []string
			for seq := 1; seq <= 8; seq++ {
				bodies = append(bodies, body(nodes, fmt.Sprint("n", seq)))
				primary := all[0].View % nodes
				settle(primary, all[primary].propose(t, bodies[seq-1]))
				for _, id := range ownQuorum(nodes) {
					if seq <= views {
						settle(id, all[id].timeout(t))
					}
				}
				for _, f := range all {
					if !slices.Equal(f.Log, bodies) || !f.Active || f.View != min(views, seq) {
						t.Fatalf("%d proposed in %d views: %s", seq, views, replicaText(f.Replica))
					}
				}
			}
		}
	}
}

func parcelsOf(nodes, from int, sent []impl.Message) []parcel {
	var list []parcel
	for _, m := range sent {
		for to := range nodes {
			if to != from {
				list = append(list, parcel{to, m})
			}
		}
	}
	return list
}
