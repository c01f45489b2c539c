package tests

import (
	"fmt"
	"math"
	"slices"
	"testing"

	"loop.example/g00292/impl"
)

// freshGroup is a new group, put together here.
func freshGroup(nodes int, faulty ...int) impl.Group {
	g := impl.Group{Nodes: nodes, Faulty: faulty}
	for id := range nodes {
		g.Replicas = append(g.Replicas, fresh(nodes, id))
	}
	return g
}

// parcels are so many, to all nodes in turn; their messages are signed.
func parcels(nodes, count int) []impl.Parcel {
	var list []impl.Parcel
	for i := range count {
		list = append(list, impl.Parcel{To: i % nodes, Message: prepare((i+1)%nodes, i%21, i%8+1, null)})
	}
	return list
}

// manySent are so many signed messages, which differ as long as they are few.
func manySent(nodes, count int) []impl.Message {
	var list []impl.Message
	for i := range min(count, 8*21) {
		list = append(list, commit(i%nodes, i%21, i%8+1, null))
	}
	for len(list) < count {
		list = append(list, list[:min(len(list), count-len(list))]...)
	}
	return list
}

// busyGroup has something in all of its lists.
func busyGroup(nodes, view int, faulty ...int) impl.Group {
	g := freshGroup(nodes, faulty...)
	for id := range nodes {
		g.Replicas[id] = []impl.Replica{fullReplica(nodes, id, view), halfReplica(nodes, id, view)}[id%2]
	}
	g.Wire, g.Sent = parcels(nodes, 9), manySent(nodes, 5)
	return g
}

// someGroups are right.
func someGroups() []impl.Group {
	list := []impl.Group{
		freshGroup(1), freshGroup(4), freshGroup(4, 0), freshGroup(4, 3), freshGroup(7), freshGroup(7, 6), freshGroup(7, 0, 1), freshGroup(7, 2, 6),
		busyGroup(1, 0), busyGroup(1, 20), busyGroup(4, 2), busyGroup(4, 5, 1), busyGroup(7, 3, 0, 6), busyGroup(7, 20, 4),
	}
	return list
}

func copyGroup(g impl.Group) impl.Group {
	g.Faulty, g.Replicas = slices.Clone(g.Faulty), slices.Clone(g.Replicas)
	for id, r := range g.Replicas {
		g.Replicas[id] = copyReplica(r)
	}
	g.Wire, g.Sent = slices.Clone(g.Wire), slices.Clone(g.Sent)
	return g
}

func sameGroup(a, b impl.Group) bool {
	return a.Nodes == b.Nodes && slices.Equal(a.Faulty, b.Faulty) && slices.EqualFunc(a.Replicas, b.Replicas, sameReplica) &&
		slices.Equal(a.Wire, b.Wire) && slices.Equal(a.Sent, b.Sent)
}

// groupText tells a group in a few words.
func groupText(g impl.Group) string {
	text := fmt.Sprintf("%d nodes, %v lie, %d replicas, wire", g.Nodes, g.Faulty, len(g.Replicas))
	for i, p := range g.Wire {
		if i < 9 {
			text += fmt.Sprintf(" %d[%d %d %d %d]", p.To, p.Message.Kind, p.Message.View, p.Message.Seq, p.Message.From)
		}
	}
	text += fmt.Sprintf(" (%d), sent%s (%d)", len(g.Wire), sentText(g.Sent[:min(9, len(g.Sent))]), len(g.Sent))
	for i, r := range g.Replicas {
		if i < 7 {
			text += "\n\t" + replicaText(r)
		}
	}
	return text
}

func askSameGroup(t *testing.T, what string, got, want impl.Group) {
	t.Helper()
	if !sameGroup(got, want) {
		t.Errorf("%s:\n%s\nnot\n%s", what, groupText(got), groupText(want))
	}
}

// someActs are such as are done, such as have a code, and one that is none.
func someActs() []impl.GroupAct {
	return []impl.GroupAct{
		{}, {Kind: impl.GrGive}, {Kind: impl.GrDrop, N: -1}, {Kind: impl.GrTwice}, {Kind: impl.GrTimeout},
		{Kind: impl.GrPropose, Request: rightRequest(impl.LkQuery)}, {Kind: impl.GrInject, Message: prepare(0, 0, 1, null)},
	}
}

// askGroup holds GroupOK, and the calls that answer ErrBad of others, to whether a group is right.
func askGroup(t *testing.T, what string, g impl.Group, right bool) {
	t.Helper()
	ahead := copyGroup(g)
	if impl.GroupOK(g) != right {
		t.Errorf("GroupOK, %s: %v:\n%s", what, !right, groupText(g))
	}
	for i, a := range someActs() {
		if right && i > 1 {
			break
		}
		got, code := impl.GroupStep(g, a)
		if (code != impl.ErrBad) != right || !right && !sameGroup(got, impl.Group{}) {
			t.Errorf("GroupStep %d, %s: %d:\n%s", i, what, code, groupText(got))
		}
	}
	log, logCode := impl.LongestLog(g)
	logs, logsCode := impl.LogsAgree(g)
	certs, certsCode := impl.CertsAgree(g)
	want := impl.ErrBad
	if right {
		want = impl.OK
	}
	if logCode != want || logsCode != want || certsCode != want {
		t.Errorf("LongestLog, LogsAgree, CertsAgree, %s: %d %d %d:\n%s", what, logCode, logsCode, certsCode, groupText(g))
	}
	if !right && (len(log) > 0 || logs || certs) {
		t.Errorf("LongestLog, LogsAgree, CertsAgree, %s: %q %v %v", what, log, logs, certs)
	}
	askSameGroup(t, what+", its argument", g, ahead)
}

// askBrokenGroup holds a right group that was changed to being right no more, or still.
func askBrokenGroup(t *testing.T, what string, g impl.Group, right bool, breaks func(g *impl.Group)) {
	t.Helper()
	x := copyGroup(g)
	breaks(&x)
	askGroup(t, what, x, right)
}

func TestGroupConstants(t *testing.T) {
	got := []int{impl.MaxScript, impl.MaxWire, impl.GrPropose, impl.GrGive, impl.GrDrop, impl.GrTwice, impl.GrTimeout, impl.GrInject}
	if want := []int{300, 400, 1, 2, 3, 4, 5, 6}; !slices.Equal(got, want) {
		t.Errorf("constants: %v, not %v", got, want)
	}
}

// someFaulty are lists of nodes, rising and not, some of which are of no node.
func someFaulty() [][]int {
	list := [][]int{nil, {}, {0, 0}, {1, 0}, {2, 1}, {6, 5}, {6, 6}, {0, 1, 2}, {2, 1, 0}, {0, 0, 0}, {-1, 0}, {0, 7}, {0, 6}, {0, 3}, {3, 4}, {5, 6}, {0, 1, 2, 3, 4, 5, 6}, {math.MaxInt, math.MinInt}}
	for _, node := range append(edges(0, 6), 2, 3, 4, 5) {
		list = append(list, []int{node}, []int{0, node}, []int{node, 6})
	}
	return list
}

// ownFaultyOK tells whether these may be the Faulty ones.
func ownFaultyOK(nodes int, faulty []int) bool {
	faults, known := ownFaults[nodes]
	sorted := slices.Compact(slices.Sorted(slices.Values(faulty)))
	return known && len(faulty) <= faults && slices.Equal(faulty, sorted) && (len(faulty) == 0 || faulty[0] >= 0 && faulty[len(faulty)-1] < nodes)
}

func TestNewGroups(t *testing.T) {
	right := 0
	for _, nodes := range append(noNodes(), 1, 4, 7) {
		for _, faulty := range someFaulty() {
			want, wantCode := impl.Group{}, impl.ErrRange
			if ownFaultyOK(nodes, faulty) {
				want, wantCode = freshGroup(nodes, faulty...), impl.OK
				right++
			}
			askKept(t, "NewGroup", faulty, -9, func(list []int) {
				got, code := impl.NewGroup(nodes, list)
				what := fmt.Sprint("NewGroup ", nodes, " ", list)
				if code != wantCode || impl.GroupOK(got) != (code == impl.OK) {
					t.Errorf("%s: %d, right %v", what, code, impl.GroupOK(got))
				}
				askSameGroup(t, what, got, want)
				run, codes, code := impl.GroupRun(nodes, list, nil)
				if code != wantCode || len(codes) > 0 {
					t.Errorf("GroupRun of no acts, %s: %v %d", what, codes, code)
				}
				askSameGroup(t, "GroupRun of no acts, "+what, run, want)
			})
		}
	}
	if right < 20 {
		t.Errorf("%d right groups", right)
	}
}

func TestNewGroupsKnown(t *testing.T) {
	known := []struct {
		nodes  int
		faulty []int
		code   int
	}{
		{1, nil, impl.OK}, {1, []int{}, impl.OK}, {1, []int{0}, impl.ErrRange},
		{4, nil, impl.OK}, {4, []int{0}, impl.OK}, {4, []int{3}, impl.OK}, {4, []int{4}, impl.ErrRange}, {4, []int{-1}, impl.ErrRange}, {4, []int{0, 1}, impl.ErrRange},
		{7, []int{0, 6}, impl.OK}, {7, []int{6, 0}, impl.ErrRange}, {7, []int{2, 2}, impl.ErrRange}, {7, []int{5, 7}, impl.ErrRange}, {7, []int{0, 1, 2}, impl.ErrRange},
		{0, nil, impl.ErrRange}, {10, nil, impl.ErrRange}, {-4, nil, impl.ErrRange}, {math.MaxInt, nil, impl.ErrRange}, {math.MinInt, nil, impl.ErrRange},
	}
	for _, row := range known {
		g, code := impl.NewGroup(row.nodes, row.faulty)
		if code != row.code {
			t.Errorf("NewGroup %d %v: %d, not %d", row.nodes, row.faulty, code, row.code)
		}
		if code == impl.OK && (g.Nodes != row.nodes || len(g.Replicas) != row.nodes || !slices.Equal(g.Faulty, row.faulty) || len(g.Wire)+len(g.Sent) > 0) {
			t.Errorf("NewGroup %d %v: %s", row.nodes, row.faulty, groupText(g))
		}
	}
}

func TestNewGroupsOfLongLists(t *testing.T) {
	for _, nodes := range []int{1, 4, 7, 0, 5, math.MinInt, math.MaxInt} {
		for size, want := range map[int]int{impl.MaxList: impl.ErrRange, impl.MaxList + 1: impl.ErrLong, 9 * impl.MaxList: impl.ErrLong} {
			g, code := impl.NewGroup(nodes, make([]int, size))
			if code != want {
				t.Errorf("NewGroup %d with %d Faulty: %d, not %d", nodes, size, code, want)
			}
			askSameGroup(t, "NewGroup", g, impl.Group{})
		}
	}
}

func TestGroupsThatAreRight(t *testing.T) {
	for i, g := range someGroups() {
		askGroup(t, fmt.Sprint(i), g, true)
		empty := copyGroup(g)
		empty.Wire, empty.Sent = []impl.Parcel{}, []impl.Message{}
		if len(g.Faulty) == 0 {
			empty.Faulty = []int{}
		}
		askGroup(t, fmt.Sprint("empty lists ", i), empty, true)
		empty.Wire, empty.Sent, empty.Faulty = nil, nil, nil
		askGroup(t, fmt.Sprint("nil lists ", i), empty, true)
	}
	askGroup(t, "nothing", impl.Group{}, false)
	askGroup(t, "no replicas", impl.Group{Nodes: 1}, false)
	askGroup(t, "no Nodes", impl.Group{Replicas: []impl.Replica{fresh(1, 0)}}, false)
}

func TestGroupsOfOtherNodes(t *testing.T) {
	for nodes := range ownFaults {
		for _, other := range append(noNodes(), 1, 4, 7) {
			askBrokenGroup(t, fmt.Sprint("Nodes ", other), freshGroup(nodes), other == nodes, func(g *impl.Group) { g.Nodes = other })
			askBrokenGroup(t, fmt.Sprint("Nodes ", other, " of no replicas"), freshGroup(nodes), false, func(g *impl.Group) { g.Nodes, g.Replicas = other, nil })
		}
	}
}

func TestGroupsOfOtherFaulty(t *testing.T) {
	for nodes := range ownFaults {
		for _, faulty := range append(someFaulty(), make([]int, impl.MaxList), make([]int, impl.MaxList+1)) {
			askBrokenGroup(t, fmt.Sprint("Faulty ", faulty[:min(9, len(faulty))]), freshGroup(nodes), ownFaultyOK(nodes, faulty), func(g *impl.Group) { g.Faulty = faulty })
		}
	}
}

func TestGroupsOfOtherReplicas(t *testing.T) {
	for nodes := range ownFaults {
		for _, g := range []impl.Group{freshGroup(nodes), busyGroup(nodes, 3)} {
			for count := range nodes + 2 {
				askBrokenGroup(t, fmt.Sprint(count, " replicas"), g, count == nodes, func(g *impl.Group) {
					g.Replicas = append(g.Replicas, fresh(nodes, 0))[:count]
				})
			}
			askBrokenGroup(t, "a replica behind the last node", g, false, func(g *impl.Group) {
				last := fresh(nodes, 0)
				last.Id = nodes
				g.Replicas = append(g.Replicas, last)
			})
			for id := range nodes {
				for other := range nodes {
					askBrokenGroup(t, fmt.Sprint("Id ", other, " at ", id), g, other == id, func(g *impl.Group) { g.Replicas[id].Id = other })
				}
				for _, other := range []int{1, 4, 7, 0, -1} {
					askBrokenGroup(t, fmt.Sprint("of other nodes at ", id), g, other == nodes, func(g *impl.Group) {
						g.Replicas[id] = fresh(other, id)
					})
				}
				askBrokenGroup(t, "a wrong View", g, false, func(g *impl.Group) { g.Replicas[id].View = 21 })
				askBrokenGroup(t, "a wrong Log", g, false, func(g *impl.Group) { g.Replicas[id].Log = []string{"x"} })
				askBrokenGroup(t, "nine Slots", g, false, func(g *impl.Group) { g.Replicas[id].Slots = make([]impl.Slot, 9) })
				askBrokenGroup(t, "an empty one", g, false, func(g *impl.Group) { g.Replicas[id] = impl.Replica{} })
			}
		}
		if nodes > 1 {
			askBrokenGroup(t, "two that changed places", freshGroup(nodes), false, func(g *impl.Group) {
				g.Replicas[0], g.Replicas[1] = g.Replicas[1], g.Replicas[0]
			})
		}
	}
}

// The replica of a Faulty node must be right as any other.
func TestGroupsOfOtherFaultyReplicas(t *testing.T) {
	for _, faulty := range [][]int{{0}, {3}, {6}, {1, 5}} {
		nodes := 7
		for _, id := range faulty {
			askBrokenGroup(t, "a wrong Log", freshGroup(nodes, faulty...), false, func(g *impl.Group) { g.Replicas[id].Log = []string{""} })
			askBrokenGroup(t, "a Log of its own", freshGroup(nodes, faulty...), true, func(g *impl.Group) { g.Replicas[id].Log = []string{null, null} })
		}
	}
}

func TestGroupsOfOtherWires(t *testing.T) {
	for nodes := range ownFaults {
		for _, count := range []int{0, 1, 399, 400, 401, 402, 4096} {
			askBrokenGroup(t, fmt.Sprint(count, " parcels"), freshGroup(nodes), count <= 400, func(g *impl.Group) { g.Wire = parcels(nodes, count) })
		}
		full := freshGroup(nodes)
		full.Wire = parcels(nodes, 400)
		for _, place := range []int{0, 1, 200, 399} {
			for _, to := range append(edges(0, 6), 3, 4, 5, nodes-1, nodes) {
				askBrokenGroup(t, fmt.Sprint("parcel ", place, " to ", to), full, to >= 0 && to < nodes, func(g *impl.Group) { g.Wire[place].To = to })
			}
			for i, m := range unsignedMessages(nodes) {
				askBrokenGroup(t, fmt.Sprint("parcel ", place, " with message ", i), full, false, func(g *impl.Group) { g.Wire[place].Message = m })
			}
		}
		askBrokenGroup(t, "of other messages", full, true, func(g *impl.Group) {
			for i, m := range everyMessage() {
				g.Wire[i].Message = signed(i%nodes, m)
			}
		})
	}
}

// unsignedMessages are not signed by any of the nodes.
func unsignedMessages(nodes int) []impl.Message {
	m := prepare(0, 3, 2, null)
	other, unmarked, twisted := m, m, m
	other.From, unmarked.Mac, twisted.View = nodes, "", 4
	list := []impl.Message{{}, other, unmarked, twisted, prepare(nodes, 3, 2, null), prepare(0, 21, 2, null), prepare(0, 3, 9, null), prepare(-1, 3, 2, null), prepare(256, 3, 2, null)}
	for at := range m.Mac {
		x := m
		x.Mac = flip(m.Mac, at)
		list = append(list, x)
	}
	if nodes > 1 {
		x := m
		x.From = 1
		list = append(list, x)
	}
	for _, wrong := range wrongMessages()[:4] {
		list = append(list, signed(0, wrong))
	}
	return list
}

func TestGroupsOfOtherSent(t *testing.T) {
	for nodes := range ownFaults {
		for _, count := range []int{0, 1, 4095, 4096, 4097, 5000} {
			askBrokenGroup(t, fmt.Sprint(count, " sent"), freshGroup(nodes), count <= 4096, func(g *impl.Group) { g.Sent = manySent(nodes, count) })
		}
		for _, place := range []int{0, 7, 4095} {
			askBrokenGroup(t, "one of many that is not signed", freshGroup(nodes), false, func(g *impl.Group) {
				g.Sent = manySent(nodes, 4096)
				g.Sent[place].View++
			})
		}
		few := freshGroup(nodes)
		few.Sent = manySent(nodes, 3)
		for place := range 3 {
			for i, m := range unsignedMessages(nodes) {
				askBrokenGroup(t, fmt.Sprint("sent ", place, ": message ", i), few, false, func(g *impl.Group) { g.Sent[place] = m })
			}
		}
		askBrokenGroup(t, "of other messages", few, true, func(g *impl.Group) {
			for i, m := range everyMessage() {
				g.Sent = append(g.Sent, signed(i%nodes, m))
			}
		})
	}
}
