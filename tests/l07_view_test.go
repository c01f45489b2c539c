package tests

import (
	"fmt"
	"slices"
	"strings"
	"testing"

	"loop.example/g00292/impl"
)

// mayBegin is the document's word on when a View may be begun.
func mayBegin(r impl.Replica, view int) bool {
	return view > r.View || view == r.View && !r.Active
}

func TestTakeChangesOfEveryView(t *testing.T) {
	for _, nodes := range []int{4, 7} {
		for _, own := range []int{0, 1, 6, 19, 20} {
			for _, active := range []bool{true, false} {
				r := inView(nodes, 0, own, active)
				for view := range 21 {
					m := change(2, view)
					switch {
					case !mayBegin(r, view):
						askTake(t, "may not be begun", r, m, impl.ErrView)
						askTake(t, "may not be begun, not right", r, changeOf(2, view, "x"), impl.ErrView)
					case view == 0:
						askTake(t, "to View 0", r, m, impl.ErrSigned)
					default:
						askTaken(t, "joins", r, m, func(r *impl.Replica) { r.Changes = []impl.Message{m} })
					}
				}
			}
		}
	}
}

func TestTakeChangesCodes(t *testing.T) {
	r := inView(4, 0, 3, false)
	r.Changes = changes([]int{1, 3}, 6)
	for i, c := range append(wrongCerts(4), at(4, 6, 2, null), at(4, 7, 2, null)) {
		for _, from := range []int{0, 1, 2} {
			askTake(t, fmt.Sprint("wrong certs ", i), r, change(from, 6, c), impl.ErrSigned)
			askTake(t, fmt.Sprint("wrong certs, late ", i), r, change(from, 4, at(4, 4, 1, null), c), impl.ErrSigned)
			askTake(t, fmt.Sprint("wrong certs, too low ", i), r, change(from, 2, c), impl.ErrView)
		}
	}
	for from := range 4 {
		for view := 3; view < 6; view++ {
			askTake(t, "of a lower View than those that are there", r, change(from, view), impl.ErrLate)
		}
		twice := from == 1 || from == 3
		if twice {
			askTake(t, "again", r, change(from, 6), impl.ErrTwice)
			askTake(t, "again, with other certs", r, change(from, 6, at(4, 5, 2, null)), impl.ErrTwice)
		} else {
			askTaken(t, "of the same View", r, change(from, 6), func(r *impl.Replica) {
				r.Changes = append(r.Changes, change(from, 6))
				slices.SortFunc(r.Changes, func(a, b impl.Message) int { return a.From - b.From })
			})
		}
		for view := 7; view <= 20; view++ {
			askTaken(t, "of a higher View: the others go", r, change(from, view), func(r *impl.Replica) { r.Changes = changes([]int{from}, view) })
		}
	}
	// Of the own View, of those that are there and of others.
	own := inView(4, 0, 3, false)
	own.Changes = changes([]int{0, 2}, 3)
	askTake(t, "again, of the own View", own, change(2, 3), impl.ErrTwice)
	askTake(t, "of the own View", own, change(3, 3), impl.OK)
	own.Active = true
	askTake(t, "of the own View when Active", own, change(3, 3), impl.ErrView)
	askTake(t, "again, of the own View when Active", own, change(2, 3), impl.ErrView)
	askTaken(t, "of the next View when Active", own, change(2, 4), func(r *impl.Replica) { r.Changes = changes([]int{2}, 4) })
}

// The primary of the View begins it with a quorum; others wait, however many there are.
func TestTakeTheLastChange(t *testing.T) {
	for _, nodes := range []int{4, 7} {
		for view := 1; view <= 20; view++ {
			primary := view % nodes
			for _, id := range []int{primary, (primary + 1) % nodes} {
				for _, from := range quorums(nodes)[:3] {
					for _, r := range []impl.Replica{inView(nodes, id, 0, true), inView(nodes, id, view-1, false), inView(nodes, id, view, false)} {
						last := from[view%len(from)]
						var others []int
						for _, node := range from {
							if node != last {
								others = append(others, node)
							}
						}
						r.Changes = changes(others, view)
						r.Log = []string{null}
						r.Slots[0].Body = null
						if id == primary {
							askTaken(t, "the primary begins it", r, change(last, view), func(r *impl.Replica) {
								*r = inView(nodes, id, view, true)
								r.Log = []string{null}
							}, begun(id, view, changes(from, view)...))
						} else {
							askTaken(t, "others wait", r, change(last, view), func(r *impl.Replica) { r.Changes = changes(from, view) })
						}
					}
				}
			}
		}
	}
}

// More Changes than a quorum: the first quorum of them counts.
func TestTakeMoreChangesThanAQuorum(t *testing.T) {
	a, b := body(4, "a"), body(4, "b")
	r := inView(4, 1, 4, true)
	r.Changes = []impl.Message{change(1, 5), change(2, 5, at(4, 3, 1, a)), change(3, 5, at(4, 4, 1, b))}
	first := change(0, 5, at(4, 0, 2, a))
	askTaken(t, "the first quorum", r, first, func(r *impl.Replica) {
		*r = inView(4, 1, 5, true)
		withSlot(1, a, false, false, prepares([]int{1}, 5, 1, a), nil)(r)
		withSlot(2, a, false, false, prepares([]int{1}, 5, 2, a), nil)(r)
	}, begun(1, 5, first, change(1, 5), change(2, 5, at(4, 3, 1, a))), prepare(1, 5, 1, a), prepare(1, 5, 2, a))
}

// A plan of several places, with gaps: each is held from Seq 1 on, the gaps by Null batches.
func TestTakeNewViews(t *testing.T) {
	a, b := body(4, "a"), body(4, "bb")
	from := []int{0, 2, 3}
	known := []struct {
		what  string
		certs [3][]impl.Cert
		plan  []string
	}{
		{"no place", [3][]impl.Cert{}, nil},
		{"one place", [3][]impl.Cert{{at(4, 0, 1, a)}, {}, {}}, []string{a}},
		{"several places", [3][]impl.Cert{{at(4, 0, 1, a)}, {at(4, 3, 2, b)}, {at(4, 1, 3, a)}}, []string{a, b, a}},
		{"gaps", [3][]impl.Cert{{at(4, 0, 3, a)}, {}, {at(4, 1, 6, b)}}, []string{null, null, a, null, null, b}},
		{"the highest View", [3][]impl.Cert{{at(4, 0, 1, a)}, {at(4, 2, 1, b)}, {at(4, 1, 1, a)}}, []string{b}},
		{"all places", [3][]impl.Cert{someCerts(4, 4, 8), {}, {}}, bodiesOf(someCerts(4, 4, 8))},
	}
	for _, row := range known {
		var list []impl.Message
		for i, node := range from {
			list = append(list, change(node, 6, row.certs[i]...))
		}
		m := begun(2, 6, list...)
		for id := range 4 {
			for _, r := range []impl.Replica{inView(4, id, 0, true), inView(4, id, 5, true), inView(4, id, 5, false), inView(4, id, 6, false), halfReplica(4, id, 3), fullReplica(4, id, 5)} {
				var sent []impl.Message
				wanted := copyReplica(r)
				wanted.View, wanted.Active, wanted.Slots, wanted.Changes = 6, true, make([]impl.Slot, 8), nil
				for at, text := range row.plan {
					wanted.Slots[at] = impl.Slot{Body: text, Prepares: prepares([]int{id}, 6, at+1, text)}
					sent = append(sent, prepare(id, 6, at+1, text))
				}
				got := askTaken(t, row.what, r, m, func(r *impl.Replica) { *r = wanted }, sent...)
				askTake(t, row.what+", again", got, m, impl.ErrView)
				askTake(t, row.what+", another plan", got, begun(2, 6, changes([]int{0, 1, 2}, 6)...), impl.ErrView)
			}
		}
		// The primary itself, by the last view change.
		r := inView(4, 2, 5, true)
		r.Changes = list[:2]
		sent := []impl.Message{m}
		for at, text := range row.plan {
			sent = append(sent, prepare(2, 6, at+1, text))
		}
		askTake(t, row.what+", by its primary", r, list[2], impl.OK, sent...)
	}
}

func TestTakeNewViewCodes(t *testing.T) {
	for _, r := range []impl.Replica{inView(4, 0, 5, true), inView(4, 0, 5, false), inView(4, 2, 5, false), fullReplica(4, 3, 5), halfReplica(4, 3, 5)} {
		for view := range 21 {
			primary := view % 4
			list := changes([]int{0, 1, 3}, view)
			for from := range 4 {
				right, wrong := begun(from, view, list...), begunOf(from, view, "x")
				switch {
				case !mayBegin(r, view):
					askTake(t, "may not be begun", r, right, impl.ErrView)
					askTake(t, "may not be begun, no list", r, wrong, impl.ErrView)
				case from != primary:
					askTake(t, "not of the primary", r, right, impl.ErrPrimary)
					askTake(t, "not of the primary, no list", r, wrong, impl.ErrPrimary)
				default:
					askTake(t, "right", r, right, impl.OK)
					askTake(t, "no list", r, wrong, impl.ErrSigned)
				}
			}
		}
	}
	askTake(t, "View 0", inView(4, 1, 0, false), begun(0, 0, changes([]int{0, 1, 2}, 0)...), impl.ErrSigned)
	askTake(t, "View 0, of nothing", inView(4, 1, 0, false), begun(0, 0), impl.ErrSigned)
	askTake(t, "View 0, of another", inView(4, 1, 0, false), begun(1, 0), impl.ErrPrimary)
}

func TestTakeNewViewsWithoutAPlan(t *testing.T) {
	for _, nodes := range []int{1, 4, 7} {
		r := inView(nodes, nodes-1, 3, true)
		from := ownQuorum(nodes)
		list := changes(from, 8)
		primary := 8 % nodes
		askTake(t, "right", r, begun(primary, 8, list...), impl.OK)
		none := func(what string, list ...impl.Message) {
			t.Helper()
			askTake(t, what, r, begun(primary, 8, list...), impl.ErrSigned)
		}
		none("nothing")
		none("one fewer", list[1:]...)
		none("one more, alike", append(slices.Clone(list), list[len(list)-1])...)
		none("one more", append(slices.Clone(list), change(nodes-1, 8))...)
		none("eight", slices.Repeat(list, 8)[:8]...)
		for i := range list {
			with := func(m impl.Message) []impl.Message {
				other := slices.Clone(list)
				other[i] = m
				return other
			}
			node := from[i]
			none("of another View", with(change(node, 7))...)
			none("of another View", with(change(node, 9))...)
			none("certs of its View", with(change(node, 8, at(nodes, 8, 1, null)))...)
			none("not signed", with(impl.Message{Kind: impl.PbViewChange, View: 8, From: node, Body: null, Mac: mac})...)
			none("a vote", with(prepare(node, 8, 1, null))...)
			none("a node that is none", with(change(nodes, 8))...)
			for k, c := range wrongCerts(nodes) {
				none(fmt.Sprint("wrong certs ", k), with(change(node, 8, c))...)
			}
			for j := range i {
				swapped := slices.Clone(list)
				swapped[i], swapped[j] = list[j], list[i]
				none("not rising", swapped...)
				none("alike", with(list[j])...)
			}
		}
		right := begun(primary, 8, list...).Body
		for _, text := range []string{"", "x", right + null, right[1:], right[:len(right)-1], ownList(right), ownList(make([]string, len(list))...), ownList(make([]string, 101)...), strings.Repeat(null, impl.MaxBody)} {
			askTake(t, "another Body", r, begunOf(primary, 8, text), impl.ErrSigned)
		}
	}
}

// What comes behind a change of View: the old one's messages are of another View, the Certs and the Log stay.
func TestTakeBehindANewView(t *testing.T) {
	a, b := body(4, "a"), body(4, "b")
	r := fresh(4, 3)
	r.Slots[0] = impl.Slot{Body: a, Sent: true, Prepares: prepares([]int{0, 1, 3}, 0, 1, a), Commits: commits([]int{1, 3}, 0, 1, a)}
	r.Certs[0] = cert([]int{0, 1, 3}, 0, 1, a)
	r.Log = nil
	first := askTake(t, "done in View 0", r, commit(0, 0, 1, a), impl.OK)
	x := askTake(t, "a new View", first, begun(1, 1, change(0, 1), change(1, 1, r.Certs[0]), change(2, 1)), impl.OK, prepare(3, 1, 1, a))
	if !sameCert(x.Certs[0], r.Certs[0]) || !slices.Equal(x.Log, []string{a}) {
		t.Error("a new View changes Certs or the Log")
	}
	for _, m := range []impl.Message{proposed(0, 0, 2, b), prepare(2, 0, 1, a), commit(2, 0, 1, a), change(2, 1), change(2, 0), begun(1, 1, changes([]int{0, 1, 2}, 1)...)} {
		askTake(t, "behind a new View", x, m, impl.ErrView)
	}
	askTake(t, "the old primary", x, proposed(0, 1, 2, b), impl.ErrPrimary)
	askTake(t, "a planned batch", x, proposed(1, 1, 1, a), impl.ErrTwice)
	askTake(t, "another than planned", x, proposed(1, 1, 1, b), impl.ErrHeld)
	y := askTake(t, "the next place", x, proposed(1, 1, 2, b), impl.OK, prepare(3, 1, 2, b))
	// The planned batch is done again, and joins the Log no more; the Cert is of the higher View then.
	y = askTake(t, "", y, prepare(0, 1, 1, a), impl.OK)
	y = askTake(t, "", y, prepare(2, 1, 1, a), impl.OK, commit(3, 1, 1, a))
	y = askTake(t, "", y, commit(0, 1, 1, a), impl.OK)
	y = askTake(t, "", y, commit(2, 1, 1, a), impl.OK)
	if !y.Slots[0].Done || !slices.Equal(y.Log, []string{a}) || !sameCert(y.Certs[0], cert([]int{0, 2, 3}, 1, 1, a)) {
		t.Errorf("done again: %s", replicaText(y))
	}
	y = askTake(t, "", y, prepare(0, 1, 2, b), impl.OK)
	y = askTake(t, "", y, prepare(1, 1, 2, b), impl.OK, commit(3, 1, 2, b))
	y = askTake(t, "", y, commit(0, 1, 2, b), impl.OK)
	y = askTake(t, "", y, commit(1, 1, 2, b), impl.OK)
	if !slices.Equal(y.Log, []string{a, b}) {
		t.Errorf("the next place: %s", replicaText(y))
	}
}

// A new View lets go of Changes, those of later Views too.
func TestANewViewHasNoChanges(t *testing.T) {
	for _, view := range []int{5, 6, 7, 20} {
		r := inView(4, 0, 4, true)
		r.Changes = changes([]int{1, 2}, view)
		x := askTake(t, "a new View", r, begun(1, 5, changes([]int{0, 1, 2}, 5)...), impl.OK)
		if len(x.Changes) > 0 {
			t.Errorf("%d Changes of View %d are left", len(x.Changes), view)
		}
		askTake(t, "they may come again", x, change(1, 6), impl.OK)
	}
}

func askTimeout(t *testing.T, what string, r impl.Replica, wantCode int, want ...impl.Message) impl.Replica {
	t.Helper()
	ahead := copyReplica(r)
	got, sent, code := impl.TimeoutReplica(r)
	askSameReplica(t, "TimeoutReplica, "+what+", its argument", r, ahead)
	askStepped(t, "TimeoutReplica, "+what, r, got, sent, code, wantCode, want)
	return got
}

// ownCerts are the certificates that a replica has.
func ownCerts(r impl.Replica) []impl.Cert {
	return slices.DeleteFunc(slices.Clone(r.Certs), func(c impl.Cert) bool { return c.Body == "" })
}

func TestTimeouts(t *testing.T) {
	for i, r := range someReplicas() {
		if r.Nodes == 1 {
			continue
		}
		if r.View == 20 {
			askTimeout(t, fmt.Sprint("at MaxView ", i), r, impl.ErrRange)
			continue
		}
		view := r.View + 1
		own := change(r.Id, view, ownCerts(r)...)
		wanted := copyReplica(r)
		wanted.View, wanted.Active, wanted.Slots = view, false, make([]impl.Slot, 8)
		if len(r.Changes) > 0 && r.Changes[0].View < view {
			wanted.Changes = nil
		}
		if !slices.ContainsFunc(wanted.Changes, func(m impl.Message) bool { return m.From == r.Id }) {
			wanted.Changes = append(wanted.Changes, own)
			slices.SortFunc(wanted.Changes, func(a, b impl.Message) int { return a.From - b.From })
		}
		got := askTimeout(t, fmt.Sprint(i), r, impl.OK, own)
		askSameReplica(t, fmt.Sprint("TimeoutReplica ", i), got, wanted)
	}
}

func TestTimeoutsUpToMaxView(t *testing.T) {
	for _, nodes := range []int{4, 7} {
		r := fresh(nodes, 3)
		r.Certs[2] = at(nodes, 0, 3, null)
		for view := 1; view <= 20; view++ {
			own := change(3, view, at(nodes, 0, 3, null))
			r = askTimeout(t, "", r, impl.OK, own)
			if r.View != view || r.Active || !slices.Equal(r.Changes, []impl.Message{own}) {
				t.Errorf("a timeout to View %d: %s", view, replicaText(r))
			}
			askTake(t, "not Active", r, prepare(0, view, 1, null), impl.ErrView)
		}
		askTimeout(t, "at MaxView", r, impl.ErrRange)
		r.Active = true
		askTimeout(t, "at MaxView, Active", r, impl.ErrRange)
		bad := copyReplica(r)
		bad.Log = []string{""}
		if got, sent, code := impl.TimeoutReplica(bad); code != impl.ErrBad || len(sent) > 0 || !sameReplica(got, impl.Replica{}) {
			t.Errorf("TimeoutReplica at MaxView of one that is not right: %d", code)
		}
	}
}

// Changes of lower Views go, others stay; with later ones there its own comes late.
func TestTimeoutsAndChanges(t *testing.T) {
	for view := 4; view <= 20; view++ {
		r := inView(4, 0, 4, true)
		r.Changes = changes([]int{1, 3}, view)
		own := change(0, 5)
		got := askTimeout(t, fmt.Sprint("Changes of View ", view), r, impl.OK, own)
		want := changes([]int{1, 3}, view)
		switch {
		case view < 5:
			want = []impl.Message{own}
		case view == 5:
			want = []impl.Message{own, want[0], want[1]}
		}
		if !slices.Equal(got.Changes, want) {
			t.Errorf("Changes of View %d: %s", view, replicaText(got))
		}
	}
	r := inView(4, 0, 4, true)
	r.Changes = []impl.Message{change(0, 5, at(4, 1, 1, null)), change(2, 5)}
	got := askTimeout(t, "its own is there already", r, impl.OK, change(0, 5))
	if !slices.Equal(got.Changes, r.Changes) {
		t.Errorf("its own is there already: %s", replicaText(got))
	}
}

// The primary of the next View may have all that it waits for but its own.
func TestTimeoutsThatBeginAView(t *testing.T) {
	a, b := body(4, "a"), body(4, "b")
	r := inView(4, 1, 4, true)
	r.Slots[0].Body = b
	r.Certs[0] = at(4, 2, 1, a)
	r.Log = []string{a}
	r.Changes = []impl.Message{change(0, 5), change(3, 5, at(4, 3, 2, b))}
	own := change(1, 5, r.Certs[0])
	got := askTimeout(t, "begins it", r, impl.OK, own, begun(1, 5, r.Changes[0], own, r.Changes[1]), prepare(1, 5, 1, a), prepare(1, 5, 2, b))
	wanted := inView(4, 1, 5, true)
	wanted.Certs[0], wanted.Log = r.Certs[0], r.Log
	withSlot(1, a, false, false, prepares([]int{1}, 5, 1, a), nil)(&wanted)
	withSlot(2, b, false, false, prepares([]int{1}, 5, 2, b), nil)(&wanted)
	askSameReplica(t, "TimeoutReplica", got, wanted)
}

// One node alone begins each next View at once, and does again what it did.
func TestTimeoutsAlone(t *testing.T) {
	r := fresh(1, 0)
	bodies := []string{body(1, "a"), null, body(1, "bb")}
	for _, text := range bodies {
		r, _, _ = impl.ProposeBody(r, text)
	}
	for view := 1; view <= 20; view++ {
		own := change(0, view, ownCerts(r)...)
		sent := []impl.Message{own, begun(0, view, own)}
		wanted := inView(1, 0, view, true)
		wanted.Log = bodies
		for at, text := range bodies {
			sent = append(sent, prepare(0, view, at+1, text), commit(0, view, at+1, text))
			withSlot(at+1, text, true, true, prepares([]int{0}, view, at+1, text), commits([]int{0}, view, at+1, text))(&wanted)
			wanted.Certs[at] = cert([]int{0}, view, at+1, text)
		}
		r = askTimeout(t, "alone", r, impl.OK, sent...)
		askSameReplica(t, "TimeoutReplica alone", r, wanted)
	}
	askTimeout(t, "alone, at MaxView", r, impl.ErrRange)
	// A gap that it never filled is filled with a Null batch.
	r = fresh(1, 0)
	r.Certs[1] = at(1, 0, 2, bodies[0])
	own := change(0, 1, r.Certs[1])
	x := askTimeout(t, "alone, with a gap", r, impl.OK, own, begun(0, 1, own), prepare(0, 1, 1, null), commit(0, 1, 1, null), prepare(0, 1, 2, bodies[0]), commit(0, 1, 2, bodies[0]))
	if !slices.Equal(x.Log, []string{null, bodies[0]}) {
		t.Errorf("alone, with a gap: %s", replicaText(x))
	}
}

// A full View change of seven nodes is no longer than a message may be.
func TestTheLongestNewView(t *testing.T) {
	name := "a23456789_12"
	from := ownQuorum(7)
	var certs []impl.Cert
	for seq := 1; seq <= 8; seq++ {
		certs = append(certs, at(7, 18, seq, readBody(name, readingsOf(from, []int{topReading}))))
	}
	r := inView(7, 5, 18, true)
	copy(r.Certs, certs)
	var list []impl.Message
	for _, node := range []int{0, 1, 2, 3} {
		list = append(list, change(node, 19, certs...))
	}
	r.Changes = list
	own := change(5, 19, certs...)
	sent := []impl.Message{own, begun(5, 19, append(slices.Clone(list), own)...)}
	for _, c := range certs {
		sent = append(sent, prepare(5, 19, c.Prepares[0].Seq, c.Body))
	}
	askTimeout(t, "the longest", r, impl.OK, sent...)
}
