package tests

import (
	"fmt"
	"slices"
	"testing"

	"loop.example/g00292/impl"
)

// sceneLiar is the primary of view 1.
const sceneLiar = 1

// scene is a group of four on its way, in which the logs never part.
type scene struct {
	*testing.T
	g impl.Group
}

func newScene(t *testing.T) *scene { return &scene{t, freshGroup(4, sceneLiar)} }

func (s *scene) do(a impl.GroupAct) {
	s.Helper()
	next, code := impl.GroupStep(s.g, a)
	if !impl.GroupOK(next) {
		s.Fatalf("%d %d %d: %d:\n%s", a.Kind, a.Node, a.N, code, groupText(next))
	}
	s.g = next
	if agree, code := impl.LogsAgree(s.g); !agree || code != impl.OK {
		s.Fatalf("%d %d %d: the logs part:\n%s", a.Kind, a.Node, a.N, groupText(s.g))
	}
}

// give gives what goes to these nodes and is of these kinds, and what comes of it that is likewise; all else stays.
func (s *scene) give(to []int, kinds ...int) {
	s.Helper()
	for {
		n := slices.IndexFunc(s.g.Wire, func(p impl.Parcel) bool {
			return slices.Contains(to, p.To) && slices.Contains(kinds, p.Message.Kind)
		})
		if n < 0 {
			return
		}
		s.do(impl.GroupAct{Kind: impl.GrGive, N: n})
	}
}

func (s *scene) loseTheRest() {
	s.Helper()
	for len(s.g.Wire) > 0 {
		s.do(impl.GroupAct{Kind: impl.GrDrop})
	}
}

// say lets the liar say all of this to each of these nodes.
func (s *scene) say(to []int, list ...impl.Message) {
	s.Helper()
	for _, node := range to {
		for _, m := range list {
			s.do(impl.GroupAct{Kind: impl.GrInject, Node: sceneLiar, N: node, Message: m})
		}
	}
}

// timeout lets nodes give their view up, and answers what they say thereupon.
func (s *scene) timeout(nodes ...int) []impl.Message {
	s.Helper()
	var said []impl.Message
	for _, node := range nodes {
		s.do(impl.GroupAct{Kind: impl.GrTimeout, Node: node})
		said = append(said, s.g.Sent[len(s.g.Sent)-1])
	}
	return said
}

// batchOf is all that the liar says for a batch at place 1 of its view.
func batchOf(text string) []impl.Message {
	return []impl.Message{proposed(sceneLiar, 1, 1, text), prepare(sceneLiar, 1, 1, text), commit(sceneLiar, 1, 1, text)}
}

func (s *scene) askLogOf(node int, want ...string) {
	s.Helper()
	if got := s.g.Replicas[node].Log; !slices.Equal(got, want) {
		s.Fatalf("replica %d has %d in its log, not %d:\n%s", node, len(got), len(want), groupText(s.g))
	}
}

// A primary that begins its view a second time, and proposes another batch then, finds no votes for it.
func TestAttackByAViewBegunTwice(t *testing.T) {
	s, a, b, all := newScene(t), body(4, "a"), body(4, "bb"), []int{0, 2, 3}
	said := s.timeout(all...)
	s.loseTheRest()
	s.say(all, begun(sceneLiar, 1, said...), batchOf(a)[0], batchOf(a)[1])
	s.give(all, impl.PbNewView, impl.PbPrePrepare, impl.PbPrepare)
	s.give([]int{0}, impl.PbCommit)
	s.askLogOf(0, a)
	s.loseTheRest()
	s.say([]int{2, 3}, begun(sceneLiar, 1, change(sceneLiar, 1), said[1], said[2]))
	s.say([]int{2, 3}, batchOf(b)...)
	s.give([]int{2, 3}, impl.PbNewView, impl.PbPrePrepare, impl.PbPrepare, impl.PbCommit)
	s.askLogOf(2)
	s.askLogOf(3)
}

// A primary that proposes ahead of beginning its view finds no votes, and may propose another batch behind it.
func TestAttackByAViewNotBegun(t *testing.T) {
	s, a, b, all := newScene(t), body(4, "a"), body(4, "bb"), []int{0, 2, 3}
	said := s.timeout(all...)
	s.loseTheRest()
	s.say(all, batchOf(a)...)
	s.give(all, impl.PbPrePrepare, impl.PbPrepare)
	s.give([]int{0}, impl.PbCommit)
	s.loseTheRest()
	s.askLogOf(0)
	s.say([]int{2, 3}, begun(sceneLiar, 1, said...))
	s.say([]int{2, 3}, batchOf(b)...)
	s.give([]int{2, 3}, impl.PbNewView, impl.PbPrePrepare, impl.PbPrepare, impl.PbCommit)
	s.askLogOf(2, b)
	s.askLogOf(3, b)
	s.askLogOf(0)
}

// One node prepared a batch in view 0 that a liar left out in view 1, where another one was done: view 2 goes on with that.
func TestAttackByACertificateLeftOut(t *testing.T) {
	for _, old := range []int{0, 3} {
		s, b := newScene(t), body(4, "bb")
		others := slices.DeleteFunc([]int{0, 2, 3}, func(node int) bool { return node == old })
		s.do(impl.GroupAct{Kind: impl.GrPropose, N: 9, Request: rightRequest(impl.LkQuery)})
		s.give([]int{2, 3}, impl.PbPrePrepare)
		s.give([]int{old}, impl.PbPrepare)
		s.loseTheRest()
		said := s.timeout(others...)
		s.loseTheRest()
		quorum := append(slices.Clone(said), change(sceneLiar, 1))
		slices.SortFunc(quorum, func(a, b impl.Message) int { return a.From - b.From })
		s.say(others, begun(sceneLiar, 1, quorum...))
		s.say(others, batchOf(b)...)
		s.give(others, impl.PbNewView, impl.PbPrePrepare, impl.PbPrepare)
		s.give(others[:1], impl.PbCommit)
		s.loseTheRest()
		s.askLogOf(others[0], b)
		s.askLogOf(others[1])
		s.timeout(0, 2, 3, old)
		s.give([]int{0, 2, 3}, 1, 2, 3, 4, 5)
		for _, node := range []int{0, 2, 3} {
			s.askLogOf(node, b)
		}
		if certs, code := impl.CertsAgree(s.g); !certs || code != impl.OK || s.g.Replicas[old].View != 2 {
			t.Error(fmt.Sprint("CertsAgree ", certs, code), groupText(s.g))
		}
	}
}
