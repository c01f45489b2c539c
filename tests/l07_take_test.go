package tests

import (
	"fmt"
	"slices"
	"strings"
	"testing"

	"loop.example/g00292/impl"
)

// askStepped holds what a replica's step answered to a code and to what is sent; with a code the replica is as it was.
func askStepped(t *testing.T, what string, r, got impl.Replica, sent []impl.Message, code, wantCode int, want []impl.Message) {
	t.Helper()
	if code != wantCode || !slices.Equal(sent, want) {
		t.Errorf("%s, %s: %d%s, not %d%s", what, replicaText(r), code, sentText(sent), wantCode, sentText(want))
	}
	if wantCode != impl.OK {
		askSameReplica(t, what+", as it was", got, r)
	}
	if !impl.ReplicaOK(got) {
		t.Errorf("%s, %s: %s is not right", what, replicaText(r), replicaText(got))
	}
}

func askTake(t *testing.T, what string, r impl.Replica, m impl.Message, wantCode int, want ...impl.Message) impl.Replica {
	t.Helper()
	ahead := copyReplica(r)
	got, sent, code := impl.TakeMessage(r, m)
	askSameReplica(t, "TakeMessage, "+what+", its argument", r, ahead)
	askStepped(t, fmt.Sprintf("TakeMessage, %s, [%d %d %d %d]", what, m.Kind, m.View, m.Seq, m.From), r, got, sent, code, wantCode, want)
	return got
}

// askTaken is askTake of what is taken with OK, and of all that changes by it.
func askTaken(t *testing.T, what string, r impl.Replica, m impl.Message, changes func(r *impl.Replica), want ...impl.Message) impl.Replica {
	t.Helper()
	got := askTake(t, what, r, m, impl.OK, want...)
	wanted := copyReplica(r)
	changes(&wanted)
	askSameReplica(t, "TakeMessage, "+what, got, wanted)
	return got
}

func nothing(*impl.Replica) {}

// withSlot is a change of one place alone.
func withSlot(seq int, body string, sent, done bool, prepares, commits []impl.Message) func(r *impl.Replica) {
	return func(r *impl.Replica) {
		r.Slots[seq-1] = impl.Slot{Body: body, Sent: sent, Done: done, Prepares: prepares, Commits: commits}
	}
}

func prepares(from []int, view, seq int, body string) []impl.Message {
	return cert(from, view, seq, body).Prepares
}

func commits(from []int, view, seq int, body string) []impl.Message {
	var list []impl.Message
	for _, node := range from {
		list = append(list, commit(node, view, seq, body))
	}
	return list
}

// Promise 9: what is not signed changes nothing, whatever it is and whatever the replica is like.
func TestTakeWhatIsNotSigned(t *testing.T) {
	for i, r := range someReplicas() {
		if i%3 > 0 {
			continue
		}
		view, from := r.View, (r.Id+1)%r.Nodes
		list := []impl.Message{
			proposed(view%r.Nodes, view, 2, null), prepare(from, view, 2, null), commit(from, view, 2, null),
			change(from, min(20, view+1)), begun(min(20, view+1)%r.Nodes, min(20, view+1), changes(ownQuorum(r.Nodes), min(20, view+1))...),
		}
		for k, m := range list {
			for at, x := range changed(m) {
				if x != m && at%4 == (i+k)%4 {
					askTake(t, "changed", r, x, impl.ErrSigned)
				}
			}
			for _, stranger := range []int{-1, r.Nodes, r.Nodes + 1, 7, 256} {
				askTake(t, "a node that is none", r, signed(stranger, m), impl.ErrSigned)
			}
			for _, text := range []string{"", m.Mac[:7], m.Mac + null, strings.Repeat("m", impl.MaxText)} {
				x := m
				x.Mac = text
				askTake(t, "another Mac", r, x, impl.ErrSigned)
			}
		}
		for k, m := range wrongMessages() {
			if m = signed(0, m); k%7 == i%7 && len(m.Body) <= impl.MaxText && len(m.Digest) <= impl.MaxText {
				askTake(t, "not right", r, m, impl.ErrSigned)
			}
		}
		askTake(t, "nothing", r, impl.Message{}, impl.ErrSigned)
	}
}

// ErrLong comes ahead of all, of the message's texts alone; then ErrBad, then ErrSigned.
func TestTakeCodesFirst(t *testing.T) {
	long := longText()
	messages := []impl.Message{{Digest: long}, {Body: long}, {Mac: long}}
	for _, m := range []impl.Message{proposed(0, 0, 1, null), prepare(0, 0, 1, null), commit(1, 0, 1, null), change(1, 1), begun(1, 1)} {
		digest, body, mark := m, m, m
		digest.Digest, body.Body, mark.Mac = long, long, long
		messages = append(messages, digest, body, mark, signed(0, body), signed(0, digest))
	}
	bad := fresh(4, 2)
	bad.Id = 4
	for _, r := range []impl.Replica{fresh(4, 2), fullReplica(4, 1, 3), bad, {}} {
		for i, m := range messages {
			got, sent, code := impl.TakeMessage(r, m)
			if code != impl.ErrLong || len(sent) > 0 || !sameReplica(got, impl.Replica{}) {
				t.Errorf("TakeMessage of a long text %d: %s %d %d", i, replicaText(got), len(sent), code)
			}
		}
		got, sent, code := impl.ProposeBody(r, long)
		if code != impl.ErrLong || len(sent) > 0 || !sameReplica(got, impl.Replica{}) {
			t.Errorf("ProposeBody of a long text: %s %d %d", replicaText(got), len(sent), code)
		}
	}
	text := strings.Repeat("a", impl.MaxText)
	for _, m := range []impl.Message{{Digest: text}, {Body: text}, {Mac: text}, prepare(9, 0, 1, null)} {
		askTake(t, "not too long", fresh(4, 2), m, impl.ErrSigned)
		if _, _, code := impl.TakeMessage(bad, m); code != impl.ErrBad {
			t.Errorf("TakeMessage of a replica that is not right: %d", code)
		}
	}
	r := fresh(4, 2)
	r.Log = []string{long}
	if _, _, code := impl.TakeMessage(r, prepare(0, 0, 1, null)); code != impl.ErrBad {
		t.Errorf("TakeMessage of a replica of long texts: %d", code)
	}
}

func TestTakeProposals(t *testing.T) {
	for _, nodes := range []int{4, 7} {
		for _, view := range []int{0, 5, 20} {
			primary := view % nodes
			for id := range nodes {
				r := inView(nodes, id, view, true)
				for _, text := range []string{null, body(nodes, "door")} {
					for seq := 1; seq <= 8; seq++ {
						own := prepares([]int{id}, view, seq, text)
						m := proposed(primary, view, seq, text)
						if id == primary {
							askTaken(t, "one's own", r, m, nothing)
							continue
						}
						x := askTaken(t, "held", r, m, withSlot(seq, text, false, false, own, nil), own...)
						askTake(t, "again", x, m, impl.ErrTwice)
						askTake(t, "another", x, proposed(primary, view, seq, body(nodes, "other")), impl.ErrHeld)
						other := seq%8 + 1
						askTake(t, "another place", x, proposed(primary, view, other, text), impl.OK, prepare(id, view, other, text))
					}
				}
			}
		}
	}
}

// Each code of a proposal stands ahead of those behind it.
func TestTakeProposalCodes(t *testing.T) {
	a, b := body(4, "a"), body(4, "b")
	empty, holding, waiting := inView(4, 3, 5, true), inView(4, 3, 5, true), inView(4, 3, 5, false)
	holding.Slots[1] = impl.Slot{Body: a}
	waiting.Slots[1] = impl.Slot{Body: a}
	other := proposed(1, 5, 2, a)
	other.Digest = ownDigest(b)
	for _, view := range []int{0, 1, 4, 6, 9, 20} {
		for from := range 4 {
			for _, r := range []impl.Replica{empty, holding, waiting} {
				askTake(t, "another View", r, proposed(from, view, 2, a), impl.ErrView)
				askTake(t, "another View, not right", r, proposed(from, view, 2, "x"), impl.ErrView)
			}
		}
	}
	for from := range 4 {
		askTake(t, "not Active", waiting, proposed(from, 5, 2, a), impl.ErrView)
		askTake(t, "not Active", waiting, proposed(from, 5, 2, "x"), impl.ErrView)
		if from == 1 {
			continue
		}
		for _, r := range []impl.Replica{empty, holding} {
			for _, text := range []string{a, b, null, "x"} {
				askTake(t, "not the primary", r, proposed(from, 5, 2, text), impl.ErrPrimary)
			}
			askTake(t, "not the primary, another Digest", r, signed(from, other), impl.ErrPrimary)
		}
	}
	for _, r := range []impl.Replica{empty, holding} {
		askTake(t, "another Digest", r, signed(1, other), impl.ErrForm)
		for _, text := range wrongBodies(4) {
			if len(text) <= impl.MaxBody {
				askTake(t, "a body that is not right", r, proposed(1, 5, 2, text), impl.ErrForm)
			}
		}
	}
	askTake(t, "the same", holding, proposed(1, 5, 2, a), impl.ErrTwice)
	askTake(t, "another", holding, proposed(1, 5, 2, b), impl.ErrHeld)
	askTake(t, "a Null one", holding, proposed(1, 5, 2, null), impl.ErrHeld)
	askTake(t, "for an empty place", holding, proposed(1, 5, 1, a), impl.OK, prepare(3, 5, 1, a))
	own := inView(4, 1, 5, true)
	own.Slots[1] = impl.Slot{Body: a}
	askTake(t, "one's own, the same", own, proposed(1, 5, 2, a), impl.ErrTwice)
	askTake(t, "one's own, another", own, proposed(1, 5, 2, b), impl.ErrHeld)
	askTake(t, "one's own, not right", own, proposed(1, 5, 2, "x"), impl.ErrForm)
	askTaken(t, "one's own, for an empty place", own, proposed(1, 5, 3, b), nothing)
}

// A replica that was told of votes ahead of the batch counts them once it holds it.
func TestTakeProposalsBehindVotes(t *testing.T) {
	a, b := body(4, "a"), body(4, "b")
	r := fresh(4, 3)
	r.Slots[0].Prepares = prepares([]int{0, 2}, 0, 1, a)
	all := prepares([]int{0, 2, 3}, 0, 1, a)
	askTaken(t, "the last Prepare is one's own", r, proposed(0, 0, 1, a), func(r *impl.Replica) {
		withSlot(1, a, true, false, all, commits([]int{3}, 0, 1, a))(r)
		r.Certs[0] = impl.Cert{Body: a, Prepares: all}
	}, prepare(3, 0, 1, a), commit(3, 0, 1, a))
	r.Slots[0].Commits = commits([]int{0, 1}, 0, 1, a)
	askTaken(t, "and the last Commit", r, proposed(0, 0, 1, a), func(r *impl.Replica) {
		withSlot(1, a, true, true, all, commits([]int{0, 1, 3}, 0, 1, a))(r)
		r.Certs[0] = impl.Cert{Body: a, Prepares: all}
		r.Log = []string{a}
	}, prepare(3, 0, 1, a), commit(3, 0, 1, a))
	askTaken(t, "votes for another batch", r, proposed(0, 0, 1, b), func(r *impl.Replica) {
		mixed := append(prepares([]int{0, 2}, 0, 1, a), prepare(3, 0, 1, b))
		withSlot(1, b, false, false, mixed, r.Slots[0].Commits)(r)
	}, prepare(3, 0, 1, b))
	// Commits alone say that a quorum was prepared.
	r.Slots[0].Prepares, r.Slots[0].Commits = nil, commits([]int{0, 1, 2}, 0, 1, a)
	askTaken(t, "Commits ahead of all else", r, proposed(0, 0, 1, a), func(r *impl.Replica) {
		withSlot(1, a, false, true, prepares([]int{3}, 0, 1, a), r.Slots[0].Commits)(r)
		r.Log = []string{a}
	}, prepare(3, 0, 1, a))
	// Somebody has spoken in its name already: its vote is sent all the same, and counts but once.
	r.Slots[0].Prepares, r.Slots[0].Commits = append(prepares([]int{0, 2}, 0, 1, a), prepare(3, 0, 1, b)), nil
	askTaken(t, "one's own vote is there, for another batch", r, proposed(0, 0, 1, a), func(r *impl.Replica) { r.Slots[0].Body = a }, prepare(3, 0, 1, a))
	r.Slots[0].Prepares, r.Slots[0].Commits = all, commits([]int{3}, 0, 1, b)
	askTaken(t, "one's own votes are there", r, proposed(0, 0, 1, a), func(r *impl.Replica) {
		withSlot(1, a, true, false, all, r.Slots[0].Commits)(r)
		r.Certs[0] = impl.Cert{Body: a, Prepares: all}
	}, prepare(3, 0, 1, a), commit(3, 0, 1, a))
}

// Votes join by their nodes, whatever batch they are for, of each node the first one.
func TestTakeVotes(t *testing.T) {
	for _, nodes := range []int{1, 4, 7} {
		for _, vote := range []func(from, view, seq int, body string) impl.Message{prepare, commit} {
			for _, view := range []int{0, 3, 20} {
				r := inView(nodes, 0, view, true)
				var joined []impl.Message
				for i := range nodes {
					from := (i*3 + view) % nodes
					m := vote(from, view, 5, []string{null, "any text"}[i%2])
					joined = append(joined, m)
					slices.SortFunc(joined, func(a, b impl.Message) int { return a.From - b.From })
					r = askTaken(t, "no Body yet", r, m, func(r *impl.Replica) {
						if m.Kind == impl.PbPrepare {
							r.Slots[4].Prepares = slices.Clone(joined)
						} else {
							r.Slots[4].Commits = slices.Clone(joined)
						}
					})
					askTake(t, "again", r, m, impl.ErrTwice)
					askTake(t, "for another batch", r, vote(from, view, 5, "another text"), impl.ErrTwice)
					askTake(t, "at another place", r, vote(from, view, 4, null), impl.OK)
				}
			}
		}
	}
}

func TestTakeVoteCodes(t *testing.T) {
	for i, r := range someReplicas() {
		for _, vote := range []func(from, view, seq int, body string) impl.Message{prepare, commit} {
			for view := range 21 {
				from := (i + view) % r.Nodes
				m := vote(from, view, 1+view%8, null)
				if view != r.View || !r.Active {
					askTake(t, "another View, or not Active", r, m, impl.ErrView)
					continue
				}
				there := r.Slots[view%8].Prepares
				if m.Kind == impl.PbCommit {
					there = r.Slots[view%8].Commits
				}
				if slices.ContainsFunc(there, func(x impl.Message) bool { return x.From == from }) {
					askTake(t, "one is there", r, m, impl.ErrTwice)
				}
			}
		}
	}
}

// Every order of the votes of four nodes for a batch that one of them holds: what is sent hangs on the counts alone.
func TestTakeVotesInEveryOrder(t *testing.T) {
	a := body(4, "a")
	for order := range 24 {
		nodes := []int{0, 1, 2, 3}
		for i := 3; i > 0; i-- {
			j := order % (i + 1)
			order /= i + 1
			nodes[i], nodes[j] = nodes[j], nodes[i]
		}
		r := askTake(t, "held", fresh(4, 2), proposed(0, 0, 1, a), impl.OK, prepare(2, 0, 1, a))
		count := 1
		for _, from := range nodes {
			if from == 2 {
				askTake(t, "one's own", r, prepare(2, 0, 1, a), impl.ErrTwice)
				continue
			}
			var want []impl.Message
			if count++; count == 3 {
				want = append(want, commit(2, 0, 1, a))
			}
			r = askTake(t, "a Prepare", r, prepare(from, 0, 1, a), impl.OK, want...)
			if r.Slots[0].Sent != (count >= 3) || len(r.Certs[0].Prepares) > 0 != (count >= 3) {
				t.Errorf("%d Prepares: %s", count, replicaText(r))
			}
		}
		count = 1
		for _, from := range nodes {
			if from == 2 {
				askTake(t, "one's own", r, commit(2, 0, 1, a), impl.ErrTwice)
				continue
			}
			r = askTake(t, "a Commit", r, commit(from, 0, 1, a), impl.OK)
			if count++; r.Slots[0].Done != (count >= 3) || len(r.Log) > 0 != (count >= 3) {
				t.Errorf("%d Commits: %s", count, replicaText(r))
			}
		}
	}
}

// The Cert is the first quorum of the Prepares that are for the Body; votes for others are passed over.
func TestTakeTheLastPrepare(t *testing.T) {
	a, b := body(7, "a"), body(7, "b")
	r := inView(7, 4, 9, true)
	r.Certs[5] = at8(7, 8, 6, b)
	r.Slots[5] = impl.Slot{Body: a, Prepares: append(append(prepares([]int{0, 1}, 9, 6, a), prepare(2, 9, 6, b)), prepares([]int{3, 6}, 9, 6, a)...)}
	voted := slices.Insert(slices.Clone(r.Slots[5].Prepares), 4, prepare(5, 9, 6, a))
	askTaken(t, "for another batch", r, prepare(5, 9, 6, b), func(r *impl.Replica) {
		r.Slots[5].Prepares = slices.Insert(r.Slots[5].Prepares, 4, prepare(5, 9, 6, b))
	})
	x := askTaken(t, "the last Prepare", r, prepare(5, 9, 6, a), func(r *impl.Replica) {
		withSlot(6, a, true, false, voted, commits([]int{4}, 9, 6, a))(r)
		r.Certs[5] = cert([]int{0, 1, 3, 5, 6}, 9, 6, a)
	}, commit(4, 9, 6, a))
	askTaken(t, "one more: Sent already", x, prepare(4, 9, 6, a), func(r *impl.Replica) {
		r.Slots[5].Prepares = slices.Insert(r.Slots[5].Prepares, 4, prepare(4, 9, 6, a))
	})
	// More than a quorum may be there when the Body comes: its own Prepare joins, then the first ones count.
	r.Slots[5] = impl.Slot{Prepares: prepares([]int{0, 1, 2, 3, 5, 6}, 9, 6, a)}
	askTaken(t, "more than a quorum", r, proposed(2, 9, 6, a), func(r *impl.Replica) {
		withSlot(6, a, true, false, prepares([]int{0, 1, 2, 3, 4, 5, 6}, 9, 6, a), commits([]int{4}, 9, 6, a))(r)
		r.Certs[5] = cert([]int{0, 1, 2, 3, 4}, 9, 6, a)
	}, prepare(4, 9, 6, a), commit(4, 9, 6, a))
	// Its own Prepare brings the quorum, and the Cert is what is first then.
	r.Slots[5] = impl.Slot{Prepares: prepares([]int{0, 3, 5, 6}, 9, 6, a)}
	askTaken(t, "one's own is the last", r, proposed(2, 9, 6, a), func(r *impl.Replica) {
		withSlot(6, a, true, false, prepares([]int{0, 3, 4, 5, 6}, 9, 6, a), commits([]int{4}, 9, 6, a))(r)
		r.Certs[5] = cert([]int{0, 3, 4, 5, 6}, 9, 6, a)
	}, prepare(4, 9, 6, a), commit(4, 9, 6, a))
}

func TestTakeTheLastCommit(t *testing.T) {
	a, b := body(4, "a"), body(4, "b")
	r := inView(4, 1, 2, true)
	r.Slots[0] = impl.Slot{Body: a, Sent: true, Prepares: prepares([]int{1, 2, 3}, 2, 1, a), Commits: commits([]int{1, 3}, 2, 1, a)}
	askTaken(t, "for another batch", r, commit(2, 2, 1, b), func(r *impl.Replica) {
		r.Slots[0].Commits = []impl.Message{commit(1, 2, 1, a), commit(2, 2, 1, b), commit(3, 2, 1, a)}
	})
	x := askTaken(t, "the last Commit", r, commit(2, 2, 1, a), func(r *impl.Replica) {
		r.Slots[0].Commits, r.Slots[0].Done, r.Log = commits([]int{1, 2, 3}, 2, 1, a), true, []string{a}
	})
	askTaken(t, "one more: Done already", x, commit(0, 2, 1, a), func(r *impl.Replica) {
		r.Slots[0].Commits = commits([]int{0, 1, 2, 3}, 2, 1, a)
	})
	// Commits ahead of Prepares: it is Done, and sends its own once it is prepared.
	r.Slots[0] = impl.Slot{Body: a, Prepares: prepares([]int{1, 2}, 2, 1, a), Commits: commits([]int{0, 2}, 2, 1, a)}
	y := askTaken(t, "Commits ahead of Prepares", r, commit(3, 2, 1, a), func(r *impl.Replica) {
		r.Slots[0].Commits, r.Slots[0].Done, r.Log = commits([]int{0, 2, 3}, 2, 1, a), true, []string{a}
	})
	askTaken(t, "and then the Prepare", y, prepare(0, 2, 1, a), func(r *impl.Replica) {
		withSlot(1, a, true, true, prepares([]int{0, 1, 2}, 2, 1, a), commits([]int{0, 1, 2, 3}, 2, 1, a))(r)
		r.Certs[0] = cert([]int{0, 1, 2}, 2, 1, a)
	}, commit(1, 2, 1, a))
	// A Prepare that brings the last Commit, too.
	r.Slots[0].Commits = commits([]int{0, 2}, 2, 1, a)
	askTaken(t, "a Prepare brings the last Commit", r, prepare(0, 2, 1, a), func(r *impl.Replica) {
		withSlot(1, a, true, true, prepares([]int{0, 1, 2}, 2, 1, a), commits([]int{0, 1, 2}, 2, 1, a))(r)
		r.Certs[0] = cert([]int{0, 1, 2}, 2, 1, a)
		r.Log = []string{a}
	}, commit(1, 2, 1, a))
}

// Places are done in any order; the Log waits for the gap.
func TestTheLogWaitsForGaps(t *testing.T) {
	var bodies []string
	for at := range 8 {
		bodies = append(bodies, body(4, strings.Repeat("g", at+1)))
	}
	bodies[4] = null
	for _, order := range [][]int{{1, 2, 3, 4, 5, 6, 7, 8}, {8, 7, 6, 5, 4, 3, 2, 1}, {2, 1, 4, 3, 6, 5, 8, 7}, {5, 2, 8, 1, 3, 7, 4, 6}, {3, 4, 5, 1, 8, 2, 6, 7}} {
		r := fresh(4, 3)
		for seq := 1; seq <= 8; seq++ {
			r.Slots[seq-1] = impl.Slot{Body: bodies[seq-1], Sent: true, Commits: commits([]int{0, 3}, 0, seq, bodies[seq-1])}
		}
		done := 0
		for i, seq := range order {
			r = askTake(t, "the last Commit", r, commit(1, 0, seq, bodies[seq-1]), impl.OK)
			for slices.Contains(order[:i+1], done+1) {
				done++
			}
			if !slices.Equal(r.Log, bodies[:done]) {
				t.Errorf("places %v are done, %d are logged", order[:i+1], len(r.Log))
			}
		}
	}
}

// What joins the Log is of the place behind its last one, whatever is done again below it.
func TestTheLogGrowsAtItsEnd(t *testing.T) {
	a, b := body(4, "a"), body(4, "b")
	r := inView(4, 3, 1, true)
	r.Log = []string{a, b}
	for seq := 1; seq <= 3; seq++ {
		r.Slots[seq-1] = impl.Slot{Body: b, Sent: true, Commits: commits([]int{0, 3}, 1, seq, b)}
	}
	x := askTake(t, "below the Log's end", r, commit(1, 1, 1, b), impl.OK)
	if !x.Slots[0].Done || !slices.Equal(x.Log, r.Log) {
		t.Errorf("place 1 done again: %d logged", len(x.Log))
	}
	x = askTake(t, "behind the Log's end", x, commit(1, 1, 3, b), impl.OK)
	if !x.Slots[2].Done || !slices.Equal(x.Log, []string{a, b, b}) {
		t.Errorf("place 3 done: %d logged", len(x.Log))
	}
	r.Log = slices.Repeat([]string{a}, 8)
	x = askTake(t, "a full Log", r, commit(1, 1, 3, b), impl.OK)
	if !x.Slots[2].Done || !slices.Equal(x.Log, r.Log) {
		t.Errorf("a full Log: %d logged", len(x.Log))
	}
}

func askPropose(t *testing.T, what string, r impl.Replica, text string, wantCode int, want ...impl.Message) impl.Replica {
	t.Helper()
	ahead := copyReplica(r)
	got, sent, code := impl.ProposeBody(r, text)
	askSameReplica(t, "ProposeBody, "+what+", its argument", r, ahead)
	askStepped(t, "ProposeBody, "+what, r, got, sent, code, wantCode, want)
	return got
}

func TestProposeBodies(t *testing.T) {
	for _, nodes := range []int{4, 7} {
		for _, view := range []int{0, 1, 6, 20} {
			primary := view % nodes
			for id := range nodes {
				for _, text := range []string{null, body(nodes, "door")} {
					r := inView(nodes, id, view, true)
					if id != primary {
						askPropose(t, "not the primary", r, text, impl.ErrPrimary)
						continue
					}
					for seq := 1; seq <= 8; seq++ {
						wanted := copyReplica(r)
						wanted.Slots[seq-1] = impl.Slot{Body: text, Prepares: prepares([]int{id}, view, seq, text)}
						r = askPropose(t, "by the primary", r, text, impl.OK, proposed(id, view, seq, text), prepare(id, view, seq, text))
						askSameReplica(t, "ProposeBody", r, wanted)
					}
					askPropose(t, "all Slots are full", r, text, impl.ErrFull)
				}
			}
		}
	}
}

func TestProposeCodes(t *testing.T) {
	for nodes := range ownFaults {
		primary, right := fresh(nodes, 0), body(nodes, "door")
		waiting, full, both := inView(nodes, 0, 0, false), fresh(nodes, 0), inView(nodes, 0, 0, false)
		for at := range 8 {
			full.Slots[at].Body, both.Slots[at].Body = null, null
		}
		askPropose(t, "not Active", waiting, right, impl.ErrPrimary)
		askPropose(t, "not Active and full", both, right, impl.ErrPrimary)
		askPropose(t, "full", full, right, impl.ErrFull)
		for _, text := range append(wrongBodies(nodes), "") {
			for _, r := range []impl.Replica{primary, waiting, full, both, inView(nodes, nodes-1, 1, true)} {
				askPropose(t, "a body that is not right", r, text, impl.ErrForm)
			}
		}
		for at := range 8 {
			gap := copyReplica(full)
			gap.Slots[at] = impl.Slot{}
			if nodes > 1 {
				askPropose(t, "a gap", gap, right, impl.OK, proposed(0, 0, at+1, right), prepare(0, 0, at+1, right))
			}
		}
		if nodes > 1 {
			voted := fresh(nodes, 0)
			voted.Slots[0] = impl.Slot{Prepares: prepares([]int{1}, 0, 1, right), Commits: commits([]int{1}, 0, 1, right), Sent: true, Done: true}
			askPropose(t, "votes are no Body", voted, right, impl.OK, proposed(0, 0, 1, right), prepare(0, 0, 1, right))
			askPropose(t, "not the primary, full", func() impl.Replica { r := copyReplica(full); r.Id = 1; return r }(), right, impl.ErrPrimary)
		}
	}
}

// Votes that were there ahead of the batch count at once.
func TestProposeBehindVotes(t *testing.T) {
	a := body(4, "a")
	r := fresh(4, 0)
	r.Slots[0] = impl.Slot{Prepares: prepares([]int{1, 3}, 0, 1, a), Commits: commits([]int{2, 3}, 0, 1, a)}
	got := askPropose(t, "votes are there", r, a, impl.OK, proposed(0, 0, 1, a), prepare(0, 0, 1, a), commit(0, 0, 1, a))
	wanted := fresh(4, 0)
	withSlot(1, a, true, true, prepares([]int{0, 1, 3}, 0, 1, a), commits([]int{0, 2, 3}, 0, 1, a))(&wanted)
	wanted.Certs[0] = cert([]int{0, 1, 3}, 0, 1, a)
	wanted.Log = []string{a}
	askSameReplica(t, "ProposeBody", got, wanted)
}

// One node alone is a quorum: what it proposes is done at once.
func TestProposeAlone(t *testing.T) {
	for _, view := range []int{0, 7, 20} {
		r := inView(1, 0, view, true)
		var bodies []string
		for seq := 1; seq <= 8; seq++ {
			text := body(1, strings.Repeat("s", seq))
			bodies = append(bodies, text)
			wanted := copyReplica(r)
			withSlot(seq, text, true, true, prepares([]int{0}, view, seq, text), commits([]int{0}, view, seq, text))(&wanted)
			wanted.Certs[seq-1], wanted.Log = cert([]int{0}, view, seq, text), slices.Clone(bodies)
			r = askPropose(t, "alone", r, text, impl.OK, proposed(0, view, seq, text), prepare(0, view, seq, text), commit(0, view, seq, text))
			askSameReplica(t, "ProposeBody alone", r, wanted)
		}
		askPropose(t, "alone, full", r, null, impl.ErrFull)
		for seq := 1; seq <= 8; seq++ {
			askTake(t, "alone", r, proposed(0, view, seq, bodies[seq-1]), impl.ErrTwice)
			askTake(t, "alone", r, prepare(0, view, seq, null), impl.ErrTwice)
			askTake(t, "alone", r, commit(0, view, seq, null), impl.ErrTwice)
		}
	}
}
