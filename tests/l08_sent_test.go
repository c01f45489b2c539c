package tests

import (
	"fmt"
	"slices"
	"testing"

	"loop.example/g00292/impl"
)

// wireText tells parcels by whom they go to and the kinds of their messages.
func wireText(list []impl.Parcel) string {
	text := ""
	for _, p := range list {
		text += fmt.Sprintf(" %d:%d", p.To, p.Message.Kind)
	}
	return text
}

// What is sent goes to all others by their numbers, message by message; Faulty ones are not left out.
func TestSentToAllOthers(t *testing.T) {
	propose := impl.GroupAct{Kind: impl.GrPropose, N: 5, Request: rightRequest(impl.LkQuery)}
	known := []struct {
		g          impl.Group
		a          impl.GroupAct
		wire, sent string
	}{
		{freshGroup(4), propose, " 1:1 2:1 3:1 1:2 2:2 3:2", "1 2"},
		{freshGroup(4, 1), propose, " 1:1 2:1 3:1 1:2 2:2 3:2", "1 2"},
		{freshGroup(7, 5, 6), propose, " 1:1 2:1 3:1 4:1 5:1 6:1 1:2 2:2 3:2 4:2 5:2 6:2", "1 2"},
		{freshGroup(1), propose, "", "1 2 3"},
		{freshGroup(4), impl.GroupAct{Kind: impl.GrTimeout, Node: 2}, " 0:4 1:4 3:4", "4"},
		{freshGroup(4, 0), impl.GroupAct{Kind: impl.GrTimeout, Node: 3}, " 0:4 1:4 2:4", "4"},
		{freshGroup(7), impl.GroupAct{Kind: impl.GrTimeout, Node: 6}, " 0:4 1:4 2:4 3:4 4:4 5:4", "4"},
		{freshGroup(1), impl.GroupAct{Kind: impl.GrTimeout}, "", "4 5"},
	}
	for i, row := range known {
		g, code := impl.GroupStep(row.g, row.a)
		sent := ""
		for _, m := range g.Sent {
			sent += fmt.Sprint(" ", m.Kind)
		}
		if code != impl.OK || wireText(g.Wire) != row.wire || sent != " "+row.sent {
			t.Errorf("%d: %d, wire%s, sent%s", i, code, wireText(g.Wire), sent)
		}
		for _, m := range g.Sent {
			if m.From != row.a.Node || !impl.MessageSigned(g.Nodes, m) {
				t.Errorf("%d: sent by %d", i, m.From)
			}
		}
	}
}

// speakers are groups with an act upon which some node sends so many messages as few acts do.
func speakers() []struct {
	what string
	g    impl.Group
	a    impl.GroupAct
	node int
	sent int
} {
	type row = struct {
		what string
		g    impl.Group
		a    impl.GroupAct
		node int
		sent int
	}
	var list []row
	for _, nodes := range []int{1, 4, 7} {
		list = append(list, row{"GrPropose", freshGroup(nodes), impl.GroupAct{Kind: impl.GrPropose, Request: rightRequest(impl.LkQuery)}, 0, 2})
		list = append(list, row{"GrTimeout", freshGroup(nodes), impl.GroupAct{Kind: impl.GrTimeout, Node: nodes - 1}, nodes - 1, 1})
		if nodes == 1 {
			list[0].sent, list[1].sent = 3, 2
			continue
		}
		g := freshGroup(nodes)
		g.Wire = []impl.Parcel{{To: 2, Message: proposed(0, 0, 1, null)}}
		list = append(list, row{"GrGive of a proposal", g, impl.GroupAct{Kind: impl.GrGive}, 2, 1})
		// A quorum of view changes begins a view with a plan of eight batches: a PbNewView and eight PbPrepares.
		g = freshGroup(nodes)
		g.Replicas[2] = inView(nodes, 2, 1, true)
		quorum := ownQuorum(nodes)
		g.Replicas[2].Changes = changes(quorum[1:], 2)
		g.Wire = []impl.Parcel{{To: 2, Message: change(0, 2, someCerts(nodes, 2, 8)...)}}
		list = append(list, row{"GrGive of the last view change", g, impl.GroupAct{Kind: impl.GrGive}, 2, 9})
	}
	return list
}

// At MaxWire and at MaxList what is beyond is lost, one from the other apart.
func TestSentBeyondWhatThereIsRoomFor(t *testing.T) {
	for _, row := range speakers() {
		all, code := impl.GroupStep(row.g, row.a)
		if code != impl.OK || len(all.Sent) != row.sent || len(all.Wire) != row.sent*(row.g.Nodes-1) {
			t.Fatalf("%s of %d: %d, %d sent, %d parcels", row.what, row.g.Nodes, code, len(all.Sent), len(all.Wire))
		}
		given := len(row.g.Wire)
		ask := func(room, sentRoom int) {
			g := copyGroup(row.g)
			g.Wire = append(g.Wire, parcels(g.Nodes, 400-room-given)...)
			g.Sent = manySent(g.Nodes, max(0, 4096-sentRoom))
			what := fmt.Sprint(row.what, ", room for ", room, " parcels and ", sentRoom, " sent")
			places := room + given // what is given leaves its place behind
			want := copyGroup(g)
			want.Replicas = all.Replicas
			want.Wire = append(want.Wire[given:], all.Wire[:min(len(all.Wire), places)]...)
			want.Sent = append(want.Sent, all.Sent[:min(len(all.Sent), sentRoom)]...)
			got, code := impl.GroupStep(g, row.a)
			if code != impl.OK || len(got.Wire) > 400 || len(got.Sent) > 4096 {
				t.Errorf("%s: %d, %d parcels, %d sent", what, code, len(got.Wire), len(got.Sent))
			}
			askSameGroup(t, what, got, want)
		}
		for room := range len(all.Wire) + 3 {
			ask(room, 4096)
		}
		for sentRoom := range row.sent + 2 {
			ask(400-given, sentRoom)
			ask(sentRoom, sentRoom)
		}
	}
}

// A full Wire that is not given from loses all that is sent, and Sent has it all the same.
func TestSentIntoAFullWire(t *testing.T) {
	for _, sent := range []int{0, 4095, 4096} {
		g := freshGroup(4)
		g.Wire, g.Sent = parcels(4, 400), manySent(4, sent)
		next, code := impl.GroupStep(g, impl.GroupAct{Kind: impl.GrTimeout, Node: 1})
		if code != impl.OK || !slices.Equal(next.Wire, g.Wire) || len(next.Sent) != min(4096, sent+1) || next.Replicas[1].View != 1 {
			t.Errorf("%d sent: %d, %d sent", sent, code, len(next.Sent))
		}
		if !impl.GroupOK(next) {
			t.Error("the group is not right")
		}
	}
}
