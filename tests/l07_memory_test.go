package tests

import (
	"fmt"
	"slices"
	"testing"

	"loop.example/g00292/impl"
)

// roomy is a list with elements behind its end; the second answer is all of them.
func roomy[T any](list []T, behind T) ([]T, []T) {
	whole := append(slices.Clone(list), slices.Repeat([]T{behind}, 9)...)
	return whole[:len(list)], whole
}

// roomyReplica is a replica whose lists have elements behind their ends; the text tells them too.
func roomyReplica(r impl.Replica) (impl.Replica, func() string) {
	behind := prepare(6, 20, 8, "behind")
	var all [][]impl.Message
	room := func(list *[]impl.Message) {
		var whole []impl.Message
		*list, whole = roomy(*list, behind)
		all = append(all, whole)
	}
	r = copyReplica(r)
	for at := range r.Slots {
		room(&r.Slots[at].Prepares)
		room(&r.Slots[at].Commits)
	}
	for at := range r.Certs {
		room(&r.Certs[at].Prepares)
	}
	room(&r.Changes)
	var slots []impl.Slot
	var certs []impl.Cert
	var log []string
	r.Slots, slots = roomy(r.Slots, impl.Slot{Body: "behind"})
	r.Certs, certs = roomy(r.Certs, impl.Cert{Body: "behind"})
	r.Log, log = roomy(r.Log, "behind")
	return r, func() string { return fmt.Sprintf("%+v %+v %+v %+v %+v", r, slots, certs, log, all) }
}

func ruin[T any](list []T, by T) {
	for at := range list[:cap(list)] {
		list[:cap(list)][at] = by
	}
}

// messageLists are all lists of messages that a replica has.
func messageLists(r impl.Replica) [][]impl.Message {
	lists := [][]impl.Message{r.Changes}
	for _, s := range r.Slots {
		lists = append(lists, s.Prepares, s.Commits)
	}
	for _, c := range r.Certs {
		lists = append(lists, c.Prepares)
	}
	return lists
}

// ruinReplica writes into all memory that a replica has.
func ruinReplica(r impl.Replica) {
	for _, list := range messageLists(r) {
		ruin(list, impl.Message{Kind: -9, Body: "ruined"})
	}
	ruin(r.Slots, impl.Slot{Body: "ruined"})
	ruin(r.Certs, impl.Cert{Body: "ruined"})
	ruin(r.Log, "ruined")
}

// stepsOf are steps of many kinds for a replica: such as change much, such as change little, such as have a code.
func stepsOf(r impl.Replica) []func(impl.Replica) (impl.Replica, []impl.Message, int) {
	view, next, nodes := r.View, min(20, r.View+1), r.Nodes
	messages := []impl.Message{
		{}, proposed(view%nodes, view, 2, null), proposed(view%nodes, view, 1, body(nodes, "door")), proposed(view%nodes, view, 4, body(nodes, "half")),
		prepare(nodes-1, view, 3, null), prepare(0, view, 1, body(nodes, "half")), commit(nodes/2, view, 7, body(nodes, "half")), commit(nodes/2, view, 1, null),
		change(nodes/3, next), change(0, 20), change(nodes-1, next, at(nodes, 0, 8, null)), begun(next%nodes, next),
		begun(next%nodes, next, changes(ownQuorum(nodes), next)...), begun(20%nodes, 20, changes(ownQuorum(nodes), 20)...),
	}
	long := changes(ownQuorum(nodes), next)
	if next > view {
		long[0] = change(0, next, someCerts(nodes, next, 8)...)
		messages = append(messages, begun(next%nodes, next, long...), long[0])
	}
	steps := []func(impl.Replica) (impl.Replica, []impl.Message, int){impl.TimeoutReplica}
	for _, m := range messages {
		steps = append(steps, func(r impl.Replica) (impl.Replica, []impl.Message, int) { return impl.TakeMessage(r, m) })
	}
	for _, text := range []string{null, body(nodes, "door"), "x", longText()} {
		steps = append(steps, func(r impl.Replica) (impl.Replica, []impl.Message, int) { return impl.ProposeBody(r, text) })
	}
	return steps
}

// readyReplicas are a step ahead of much: a vote, a batch or a view change more, and they send, log and begin.
func readyReplicas() []impl.Replica {
	var list []impl.Replica
	for _, nodes := range []int{1, 4, 7} {
		quorum := ownQuorum(nodes)
		r := fresh(nodes, nodes-1)
		r.Slots[0].Body = null
		r.Slots[0].Prepares = prepares(quorum[1:], 0, 1, null)
		r.Slots[0].Commits = commits(quorum[1:], 0, 1, null)
		r.Slots[1] = impl.Slot{Body: null, Done: true}
		r.Slots[2].Done = true
		primary := inView(nodes, 1%nodes, 0, true)
		primary.Changes = changes(quorum[1:], 1)
		primary.Certs = append(someCerts(nodes, 0, 6), make([]impl.Cert, 2)...)
		list = append(list, r, primary)
	}
	return list
}

// Promise 1, of replicas: arguments stay, what stands behind their ends too, and answers share no memory with them, nor their lists with each other.
func TestReplicasAreKeptAndNew(t *testing.T) {
	for i, r := range append(readyReplicas(), someReplicas()...) {
		for k, step := range stepsOf(r) {
			what := fmt.Sprint("replica ", i, " step ", k)
			x, text := roomyReplica(r)
			ahead := text()
			y, sent, code := step(x)
			if text() != ahead {
				t.Fatalf("%s writes into its replica", what)
			}
			wanted, wantedSent := copyReplica(y), slices.Clone(sent)
			ruinReplica(y)
			ruin(sent, impl.Message{Kind: -9})
			if text() != ahead {
				t.Fatalf("%s: its replica changes with its answer", what)
			}
			z, sent, again := step(x)
			ruinReplica(x)
			if !sameReplica(z, wanted) || !slices.Equal(sent, wantedSent) || again != code {
				t.Fatalf("%s: its answer changes with its replica, or is told otherwise again", what)
			}
			askApart(t, what, func(list int) impl.Message { return impl.Message{Kind: list} }, append(messageLists(z), sent)...)
		}
	}
}

func TestNewReplicasAreNew(t *testing.T) {
	for nodes := range ownFaults {
		a, _ := impl.NewReplica(0, nodes)
		b, _ := impl.NewReplica(0, nodes)
		ruinReplica(a)
		askSameReplica(t, "NewReplica", b, fresh(nodes, 0))
		c, _ := impl.NewReplica(0, nodes)
		askSameReplica(t, "NewReplica", c, fresh(nodes, 0))
	}
	for _, r := range someReplicas() {
		x, text := roomyReplica(r)
		ahead := text()
		impl.ReplicaOK(x)
		if text() != ahead {
			t.Error("ReplicaOK writes into its replica")
		}
	}
}
