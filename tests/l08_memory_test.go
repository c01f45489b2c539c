package tests

import (
	"fmt"
	"slices"
	"testing"

	"loop.example/g00292/impl"
)

// roomyGroup is a group whose lists have elements behind their ends; the text tells them too.
func roomyGroup(g impl.Group) (impl.Group, func() string) {
	var texts []func() string
	g = copyGroup(g)
	for id, r := range g.Replicas {
		x, text := roomyReplica(r)
		g.Replicas[id] = x
		texts = append(texts, text)
	}
	var faulty []int
	var replicas []impl.Replica
	var wire []impl.Parcel
	var sent []impl.Message
	g.Faulty, faulty = roomy(g.Faulty, -9)
	g.Replicas, replicas = roomy(g.Replicas, impl.Replica{Id: -9})
	g.Wire, wire = roomy(g.Wire, impl.Parcel{To: -9})
	g.Sent, sent = roomy(g.Sent, impl.Message{Kind: -9})
	return g, func() string {
		all := fmt.Sprintf("%v %v %v %v", faulty, replicas, wire, sent)
		for _, text := range texts {
			all += text()
		}
		return all
	}
}

// ruinGroup writes into all memory that a group has.
func ruinGroup(g impl.Group) {
	for _, r := range g.Replicas {
		ruinReplica(r)
	}
	ruin(g.Faulty, -9)
	ruin(g.Replicas, impl.Replica{Id: -9})
	ruin(g.Wire, impl.Parcel{To: -9})
	ruin(g.Sent, impl.Message{Kind: -9})
}

// askGroupApart fails if two lists of a group share memory; it ruins the group.
func askGroupApart(t *testing.T, what string, g impl.Group) {
	t.Helper()
	lists := [][]impl.Message{g.Sent}
	var logs [][]string
	var slots [][]impl.Slot
	var certs [][]impl.Cert
	for _, r := range g.Replicas {
		lists = append(lists, messageLists(r)...)
		logs, slots, certs = append(logs, r.Log), append(slots, r.Slots), append(certs, r.Certs)
	}
	askApart(t, what, func(list int) impl.Message { return impl.Message{Kind: list} }, lists...)
	askApart(t, what, func(list int) string { return fmt.Sprint(list) }, logs...)
	for i := range slots {
		for j := range slots[:i] {
			if &slots[i][0] == &slots[j][0] || &certs[i][0] == &certs[j][0] {
				t.Fatalf("%s: replicas %d and %d share memory", what, i, j)
			}
		}
	}
}

// actsOf are acts of every kind for a group: such as change much, such as change little, such as have a code.
func actsOf(g impl.Group) []impl.GroupAct {
	list := append(someActs(), impl.GroupAct{Kind: impl.GrGive, N: 1}, impl.GroupAct{Kind: impl.GrDrop, N: 1}, impl.GroupAct{Kind: impl.GrDrop, N: 8}, impl.GroupAct{Kind: impl.GrTwice, N: 3}, longActs()[9])
	for node := range min(g.Nodes, 3) {
		list = append(list, impl.GroupAct{Kind: impl.GrTimeout, Node: node},
			impl.GroupAct{Kind: impl.GrPropose, Node: node, Request: rightRequest(1)},
			impl.GroupAct{Kind: impl.GrInject, Node: node, N: node, Message: everyMessage()[3]})
	}
	return list
}

// memoryGroups have, besides others, such on which giving a parcel changes much.
func memoryGroups() []impl.Group {
	list := []impl.Group{freshGroup(1), freshGroup(4, 1), busyGroup(1, 3), busyGroup(4, 2, 1), busyGroup(7, 3, 0, 6)}
	for _, nodes := range []int{4, 7} {
		g := freshGroup(nodes)
		for id := range nodes {
			g.Replicas[id] = readyReplicas()[nodes/3*2+id%2] // two of each number of nodes
			g.Replicas[id].Id = id
		}
		g.Wire = []impl.Parcel{{To: 1, Message: change(0, 1, someCerts(nodes, 1, 8)...)}, {To: 2, Message: prepare(0, 0, 1, null)}}
		g.Sent = manySent(nodes, 2)
		list = append(list, g)
	}
	return list
}

// Promise 1, of groups: arguments stay, what stands behind their ends too, and answers share no memory with them, nor their lists with each other.
func TestGroupsAreKeptAndNew(t *testing.T) {
	for i, g := range memoryGroups() {
		if !impl.GroupOK(g) {
			t.Fatalf("group %d is not right: %s", i, groupText(g))
		}
		for k, a := range actsOf(g) {
			what := fmt.Sprint("group ", i, " act ", k)
			x, text := roomyGroup(g)
			ahead := text()
			y, code := impl.GroupStep(x, a)
			if text() != ahead {
				t.Fatalf("%s writes into its group", what)
			}
			want := copyGroup(y)
			ruinGroup(y)
			if text() != ahead {
				t.Fatalf("%s: its group changes with its answer", what)
			}
			z, again := impl.GroupStep(x, a)
			ruinGroup(x)
			if !sameGroup(z, want) || again != code {
				t.Fatalf("%s: its answer changes with its group, or is told otherwise again", what)
			}
			askGroupApart(t, what, z)
		}
	}
}

// A group whose lists share memory among each other is answered with lists that do not.
func TestGroupsOfSharedMemory(t *testing.T) {
	log := []string{null, null, null}
	prepared := prepares([]int{0, 1, 2}, 0, 1, null)
	changed := changes([]int{0, 3}, 1)
	g := freshGroup(4)
	for id := range 4 {
		r := &g.Replicas[id]
		r.Log, r.Changes = log[:id%4], changed
		r.Slots[0] = impl.Slot{Body: null, Prepares: prepared}
		r.Certs[0] = impl.Cert{Body: null, Prepares: prepared}
	}
	g.Replicas[2].Slots, g.Replicas[2].Certs = g.Replicas[1].Slots, g.Replicas[1].Certs
	g.Sent, g.Wire = prepared, parcels(4, 2)
	if !impl.GroupOK(g) {
		t.Fatalf("the group is not right: %s", groupText(g))
	}
	for k, a := range append(actsOf(g), impl.GroupAct{Kind: impl.GrTimeout, Node: 1}) {
		y, code := impl.GroupStep(g, a)
		if code != impl.ErrLong {
			askGroupApart(t, fmt.Sprint("act ", k), y)
		}
	}
}

func TestNewGroupsAndRunsAreNew(t *testing.T) {
	for _, nodes := range []int{1, 4, 7} {
		faulty := []int{0, 1}[:ownFaults[nodes]]
		acts := proposeAndGive(1, 40)
		a, _ := impl.NewGroup(nodes, faulty)
		b, _ := impl.NewGroup(nodes, faulty)
		c, codes, _ := impl.GroupRun(nodes, faulty, acts)
		d, same, _ := impl.GroupRun(nodes, faulty, acts)
		ruinGroup(a)
		if !slices.Equal(faulty, []int{0, 1}[:ownFaults[nodes]]) {
			t.Fatal("NewGroup: Faulty changes with its answer")
		}
		askSameGroup(t, "NewGroup", b, freshGroup(nodes, faulty...))
		want := copyGroup(d)
		ruinGroup(c)
		ruin(codes, -9)
		askSameGroup(t, "GroupRun", d, want)
		ruin(faulty, -9)
		ruin(acts, impl.GroupAct{Kind: -9})
		askSameGroup(t, "GroupRun, its arguments changed", d, want)
		askSameGroup(t, "NewGroup, its argument changed", b, freshGroup(nodes, []int{0, 1}[:ownFaults[nodes]]...))
		if len(same) != 41 || slices.Contains(same, -9) {
			t.Error("GroupRun: codes of two runs share memory")
		}
		askGroupApart(t, "GroupRun", d)
		askGroupApart(t, "NewGroup", b)
	}
}

func TestLongestLogsAreNew(t *testing.T) {
	for i, g := range memoryGroups() {
		x, text := roomyGroup(g)
		ahead := text()
		log, _ := impl.LongestLog(x)
		want := slices.Clone(log)
		impl.GroupOK(x)
		impl.LogsAgree(x)
		impl.CertsAgree(x)
		ruin(log, "ruined")
		if text() != ahead {
			t.Errorf("group %d changes with its longest log, or is written into", i)
		}
		log, _ = impl.LongestLog(x)
		ruinGroup(x)
		if !slices.Equal(log, want) {
			t.Errorf("the longest log of group %d changes with it", i)
		}
	}
}
