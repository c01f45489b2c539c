package tests

import (
	"fmt"
	"slices"
	"testing"

	"loop.example/g00292/impl"
)

// calledDone calls places Done that have no Body; the replica stays right by that.
func calledDone(r impl.Replica, seqs ...int) impl.Replica {
	r = copyReplica(r)
	for _, seq := range seqs {
		r.Slots[seq-1].Done = true
	}
	return r
}

// askLogged holds a step of a right replica to a code, to how many messages it sends, and to its Log.
func askLogged(t *testing.T, what string, r impl.Replica, step func(impl.Replica) (impl.Replica, []impl.Message, int), wantCode, wantSent int, log ...string) impl.Replica {
	t.Helper()
	if !impl.ReplicaOK(r) {
		t.Fatalf("%s, %s is not right", what, replicaText(r))
	}
	ahead := copyReplica(r)
	got, sent, code := step(r)
	askSameReplica(t, what+", its argument", r, ahead)
	if code != wantCode || len(sent) != wantSent || !slices.Equal(got.Log, log) {
		t.Errorf("%s, %s: %d%s, Log %q, not %d, %d sent, Log %q", what, replicaText(r), code, sentText(sent), got.Log, wantCode, wantSent, log)
	}
	return got
}

func taking(m impl.Message) func(impl.Replica) (impl.Replica, []impl.Message, int) {
	return func(r impl.Replica) (impl.Replica, []impl.Message, int) { return impl.TakeMessage(r, m) }
}

func proposing(text string) func(impl.Replica) (impl.Replica, []impl.Message, int) {
	return func(r impl.Replica) (impl.Replica, []impl.Message, int) { return impl.ProposeBody(r, text) }
}

// A Slot that is Done joins the Log, also one whose Body is empty; a Log with an empty body is not right any more.
func TestDoneWithoutBodyJoinsTheLog(t *testing.T) {
	got := askLogged(t, "ProposeBody", calledDone(fresh(1, 0), 2), proposing(null), impl.OK, 3, null, "")
	if impl.ReplicaOK(got) {
		t.Error("an empty body in a Log is right")
	}
	askLogged(t, "the next one is not Done", calledDone(fresh(1, 0), 3), proposing(null), impl.OK, 3, null)
	askLogged(t, "a gap behind it", calledDone(fresh(1, 0), 2, 4), proposing(null), impl.OK, 3, null, "")
	askLogged(t, "all of them", calledDone(fresh(1, 0), 1, 2, 3, 4, 5, 6, 7, 8), proposing(null), impl.OK, 3, null, "", "", "", "", "", "", "")
	for nodes := range ownFaults {
		a := body(nodes, "a")
		for last := 1; last <= 8; last++ {
			r := fresh(nodes, 0)
			r.Log = slices.Repeat([]string{a}, last)
			want := slices.Clone(r.Log)
			for seq := last + 1; seq <= 8; seq++ {
				r = calledDone(r, seq)
				want = append(want, "")
			}
			r.Slots[0].Body = a
			r.Slots[0].Sent = true
			askLogged(t, fmt.Sprint("a Log of ", last), r, taking(commit(nodes-1, 0, 1, a)), impl.OK, 0, want...)
		}
	}
}

// The Log grows wherever a replica looks, whatever it looks at, and nowhere else.
func TestDoneWithoutBodyWhereItLooks(t *testing.T) {
	for _, nodes := range []int{4, 7} {
		a, b := body(nodes, "a"), body(nodes, "b")
		r := calledDone(inView(nodes, 2, 3, true), 1, 2, 4)
		r.Slots[6].Body = a
		askLogged(t, "a PbPrepare", r, taking(prepare(1, 3, 7, a)), impl.OK, 0, "", "")
		askLogged(t, "a PbPrepare of another batch", r, taking(prepare(1, 3, 7, b)), impl.OK, 0, "", "")
		askLogged(t, "a PbCommit", r, taking(commit(1, 3, 7, a)), impl.OK, 0, "", "")
		askLogged(t, "a PbPrePrepare", r, taking(proposed(3, 3, 5, a)), impl.OK, 1, "", "")
		askLogged(t, "a PbPrePrepare that closes the gap", calledDone(r, 3), taking(proposed(3, 3, 3, a)), impl.OK, 1, "", "", a, "")
		askLogged(t, "a PbPrePrepare for a place that is Done", r, taking(proposed(3, 3, 2, a)), impl.OK, 1, "", a)
		r.Id = 3
		askLogged(t, "ProposeBody", r, proposing(a), impl.OK, 2, a, "")
		askLogged(t, "its own PbPrePrepare is not held", r, taking(proposed(3, 3, 5, a)), impl.OK, 0)
		for _, m := range []impl.Message{prepare(1, 3, 1, a), commit(1, 3, 1, a), commit(1, 3, 5, a), prepare(1, 3, 8, null)} {
			askLogged(t, "a Slot without a Body is not looked at", r, taking(m), impl.OK, 0)
		}
	}
}

// With a code nothing changes, and a View that is begun or given up has no Slot of the one ahead.
func TestDoneWithoutBodyWhereItDoesNot(t *testing.T) {
	for _, nodes := range []int{4, 7} {
		a := body(nodes, "a")
		r := calledDone(inView(nodes, 2, 3, true), 1, 2, 4)
		r.Slots[6] = impl.Slot{Body: a, Prepares: prepares([]int{1}, 3, 7, a), Commits: commits([]int{1}, 3, 7, a)}
		for m, code := range map[impl.Message]int{
			prepare(1, 3, 7, a): impl.ErrTwice, commit(1, 3, 7, null): impl.ErrTwice, commit(0, 4, 7, a): impl.ErrView, proposed(3, 3, 7, a): impl.ErrTwice,
			proposed(3, 3, 7, null): impl.ErrHeld, proposed(0, 3, 5, a): impl.ErrPrimary, proposed(3, 3, 5, "x"): impl.ErrForm, prepare(nodes, 3, 7, a): impl.ErrSigned,
		} {
			askSameReplica(t, "with a code", askLogged(t, "with a code", r, taking(m), code, 0), r)
		}
		waiting := copyReplica(r)
		waiting.Active = false
		askLogged(t, "not Active", waiting, taking(commit(0, 3, 7, a)), impl.ErrView, 0)
		list := changes(ownQuorum(nodes), 4)
		list[0] = change(0, 4, at(nodes, 2, 3, a))
		next := askLogged(t, "a View is begun", r, taking(begun(4%nodes, 4, list...)), impl.OK, 3)
		for at, s := range next.Slots {
			if s.Done {
				t.Errorf("place %d is Done in a View that was begun", at+1)
			}
		}
		askLogged(t, "TimeoutReplica", r, impl.TimeoutReplica, impl.OK, 1)
		askLogged(t, "a PbViewChange", r, taking(change(1, 5)), impl.OK, 0)
	}
	// One node alone holds, and is done with, the bodies of the plan at once: its own Certs.
	r := calledDone(fresh(1, 0), 1, 2, 3, 4)
	r.Certs[1] = at(1, 0, 2, null)
	askLogged(t, "TimeoutReplica of one alone", r, impl.TimeoutReplica, impl.OK, 6, null, null)
}

// ownOf is the model in the state of a replica.
func ownOf(r impl.Replica) *ownReplica {
	x := newOwnReplica(r.Nodes, r.Id)
	x.view, x.active, x.log = r.View, r.Active, slices.Clone(r.Log)
	for at, s := range r.Slots {
		if s.Body != "" {
			x.bodies[at+1] = s.Body
		}
		x.sent[at+1], x.done[at+1] = s.Sent, s.Done
		for _, m := range slices.Concat(s.Prepares, s.Commits) {
			x.casts[castKey{m.Kind, at + 1, m.From}] = m
		}
		if len(r.Certs[at].Prepares) > 0 {
			x.certs[at+1] = r.Certs[at]
		}
	}
	for _, m := range r.Changes {
		x.changes[m.From] = m
	}
	return x
}

// drawReplica draws a right one, mostly one that no run leads to.
func drawReplica(d *drawn, nodes int) impl.Replica {
	r := inView(nodes, d.below(nodes), d.below(21), d.below(8) > 0)
	for at := range 8 {
		s, text := &r.Slots[at], drawBody(d, nodes, r.View, at+1)
		if d.below(2) == 0 {
			s.Body = text
		}
		s.Sent, s.Done = d.below(2) == 0, d.below(3) > 0
		for node := range nodes {
			if d.below(2) == 0 {
				s.Prepares = append(s.Prepares, prepare(node, r.View, at+1, text))
			}
			if d.below(2) == 0 {
				s.Commits = append(s.Commits, commit(node, r.View, at+1, text))
			}
		}
		if d.below(4) == 0 {
			r.Certs[at] = at8(nodes, d.below(r.View+1), at+1, text)
		}
		if d.below(10) < 6 && len(r.Log) == at {
			r.Log = append(r.Log, text)
		}
	}
	if view := r.View + 1; view <= 20 && d.below(2) == 0 {
		r.Changes = changes(ownQuorum(nodes)[:1+d.below(len(ownQuorum(nodes)))], view)
	}
	return r
}

// drawStep is a step of the program and the same one of the model.
func drawStep(d *drawn, r impl.Replica) (func(impl.Replica) (impl.Replica, []impl.Message, int), func(*ownReplica) int) {
	switch d.below(10) {
	case 0:
		return impl.TimeoutReplica, (*ownReplica).timeout
	case 1, 2:
		text := drawBody(d, r.Nodes, r.View, 1+d.below(8))
		return proposing(text), func(x *ownReplica) int { return x.propose(text) }
	}
	m := drawMessage(d, r)
	return taking(m), func(x *ownReplica) int { return x.take(m) }
}

// One step of each of many right replicas, whatever their Slots say of Sent and Done, is what the model does.
func TestStepsOfDrawnReplicas(t *testing.T) {
	tally := map[string]int{}
	for run := range 1500 {
		d := &drawn{seed: uint64(90000 + 40*run)}
		r := drawReplica(d, []int{1, 4, 7, 4}[run%4])
		step, own := drawStep(d, r)
		x := ownOf(r)
		wantCode := own(x)
		want := x.replica()
		got := askLogged(t, fmt.Sprint("run ", run), r, step, wantCode, len(x.out), want.Log...)
		askSameReplica(t, fmt.Sprint("run ", run), got, want)
		if _, sent, _ := step(r); !slices.Equal(sent, x.out) {
			t.Errorf("run %d, %s: sent%s, not%s", run, replicaText(r), sentText(sent), sentText(x.out))
		}
		if len(got.Log) < len(r.Log) || !slices.Equal(got.Log[:len(r.Log)], r.Log) {
			t.Errorf("run %d, %s: the Log has not only grown: %s", run, replicaText(r), replicaText(got))
		}
		tally[impl.CodeWord(wantCode)]++
		if len(got.Log) > len(r.Log) {
			tally["logged"]++
		}
		if slices.Contains(got.Log, "") {
			tally["an empty body"]++
		}
	}
	for _, word := range []string{"ok", "view", "twice", "held", "logged", "an empty body"} {
		if tally[word] < 10 {
			t.Errorf("the steps came by %q but %d times", word, tally[word])
		}
	}
}
