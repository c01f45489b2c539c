package tests

import (
	"fmt"
	"slices"
	"testing"

	"loop.example/g00292/impl"
)

// plot draws acts one by one: a wire that loses, doubles and reorders, nodes that give their primary up, and liars who
// know all that was said. They sign for themselves alone, and bring no votes of others but such as were cast.
type plot struct {
	*drawn
	g     impl.Group
	later []impl.GroupAct // acts that belong together
	loss  int             // of a hundred parcels
	reach int             // how far ahead of its turn a parcel may be given
	stamp int
}

// newPlot has as many liars as there may be, now and then one fewer.
func newPlot(seed uint64, nodes int) *plot {
	d := &drawn{seed: seed}
	var faulty []int
	count := ownFaults[nodes]
	if count > 0 && d.below(6) == 0 {
		count--
	}
	for len(faulty) < count {
		if node := d.below(nodes); !slices.Contains(faulty, node) {
			faulty = append(faulty, node)
		}
	}
	slices.Sort(faulty)
	return &plot{drawn: d, g: freshGroup(nodes, faulty...), loss: d.below(6), reach: 1 + d.below(30)}
}

func (p *plot) honest() []impl.Replica {
	return slices.DeleteFunc(slices.Clone(p.g.Replicas), func(r impl.Replica) bool { return slices.Contains(p.g.Faulty, r.Id) })
}

func (p *plot) next() impl.GroupAct {
	if len(p.later) > 0 && p.below(2) == 0 {
		a := p.later[0]
		p.later = p.later[1:]
		return a
	}
	x, n := p.below(100), p.below(min(len(p.g.Wire)+1, p.reach))
	if len(p.g.Wire) == 0 {
		x = 10 + p.below(10)
	}
	switch {
	case x < p.loss:
		return impl.GroupAct{Kind: impl.GrDrop, N: n}
	case x < 6:
		return impl.GroupAct{Kind: impl.GrTwice, N: n}
	case x >= 10 && x < 13:
		return p.propose()
	case x >= 13 && x < 19 && len(p.g.Faulty) > 0:
		return p.lie()
	case x == 19 && len(p.later) == 0 && (len(p.g.Wire) == 0 || p.below(3) == 0):
		return p.giveUp()
	}
	return impl.GroupAct{Kind: impl.GrGive, N: n}
}

// propose lets the primary propose whom some node takes for it, be it Faulty or not.
func (p *plot) propose() impl.GroupAct {
	p.stamp++
	r := p.g.Replicas[p.below(p.g.Nodes)]
	return impl.GroupAct{Kind: impl.GrPropose, Node: r.View % p.g.Nodes, N: p.stamp, Request: request(3, p.stamp, impl.LkQuery, 0, "door")}
}

// giveUp lets most of those that lag behind give their view up, so that the next one can be begun.
func (p *plot) giveUp() impl.GroupAct {
	list := p.honest()
	most := 0
	for _, r := range list {
		most = max(most, r.View)
	}
	for _, r := range list {
		if p.below(8) > 0 {
			for range max(1, most+1-r.View) {
				p.later = append(p.later, impl.GroupAct{Kind: impl.GrTimeout, Node: r.Id})
			}
		}
	}
	return impl.GroupAct{Kind: impl.GrTimeout, Node: list[p.below(len(list))].Id}
}

func (p *plot) say(liar, to int, m impl.Message) {
	p.later = append(p.later, impl.GroupAct{Kind: impl.GrInject, Node: liar, N: to, Message: m})
}

// lie draws a plan of some lies, and answers the first one.
func (p *plot) lie() impl.GroupAct {
	liar, list := p.g.Faulty[p.below(len(p.g.Faulty))], p.honest()
	one := list[p.below(len(list))]
	primary := one.View%p.g.Nodes == liar
	switch x := p.below(10); {
	case x < 5 && primary && !one.Active:
		p.beginView(liar, list)
	case x < 4 && primary:
		p.proposeTwo(liar, list)
	case x < 7:
		p.flatter(liar, list)
	case x < 8:
		p.bringCerts(liar, list, one.View+p.below(2))
	case x < 9 && len(p.g.Sent) > 0:
		p.say(liar, one.Id, p.twisted(p.g.Sent[p.below(len(p.g.Sent))]))
	default:
		p.beginView(liar, list)
	}
	if len(p.later) == 0 {
		return impl.GroupAct{Kind: impl.GrInject, Node: liar, N: one.Id, Message: changeOf(liar, one.View, "x")}
	}
	a := p.later[0]
	p.later = p.later[1:]
	return a
}

// proposeTwo proposes one batch to some, another one to the others.
func (p *plot) proposeTwo(liar int, list []impl.Replica) {
	parting := p.below(8)
	for _, r := range list {
		free := slices.IndexFunc(r.Slots, func(s impl.Slot) bool { return s.Body == "" })
		if free >= 0 && r.View%p.g.Nodes == liar {
			text := body(p.g.Nodes, []string{"lie", "other"}[parting>>(r.Id%3)&1])
			p.say(liar, r.Id, proposed(liar, r.View, free+1, text))
		}
	}
}

// flatter votes, to each, for the batch that it holds, whatever the others hold.
func (p *plot) flatter(liar int, list []impl.Replica) {
	for _, r := range list {
		for at, s := range r.Slots {
			if s.Body == "" || s.Done || p.below(4) == 0 {
				continue
			}
			p.say(liar, r.Id, prepare(liar, r.View, at+1, s.Body))
			p.say(liar, r.Id, commit(liar, r.View, at+1, s.Body))
		}
	}
}

// bringCerts gives a view up, and brings to each others' certificates of its choice, or none.
func (p *plot) bringCerts(liar int, list []impl.Replica, view int) {
	for _, r := range list {
		p.say(liar, r.Id, change(liar, view, p.someCertsBelow(view)...))
	}
}

func (p *plot) someCertsBelow(view int) []impl.Cert {
	list := p.honest()
	var certs []impl.Cert
	for at := range 8 {
		c := list[p.below(len(list))].Certs[at]
		if len(c.Prepares) > 0 && c.Prepares[0].View < view && p.below(3) > 0 {
			certs = append(certs, c)
		}
	}
	return certs
}

// beginView begins a view of which the liar is the primary, for each with another choice of what was said.
func (p *plot) beginView(liar int, list []impl.Replica) {
	view := 0
	for _, r := range list {
		if (r.View > view || !r.Active) && r.View%p.g.Nodes == liar {
			view = r.View
		}
	}
	for _, r := range list {
		said := map[int]impl.Message{}
		for _, m := range p.g.Sent {
			if m.Kind == impl.PbViewChange && m.View == view && (said[m.From].Kind == 0 || p.below(2) == 0) {
				said[m.From] = m
			}
		}
		for _, other := range p.g.Faulty {
			said[other] = change(other, view, p.someCertsBelow(view)...)
		}
		var quorum []impl.Message
		for node := range p.g.Nodes {
			if m, ok := said[node]; ok && (p.below(4) > 0 || len(said) == 2*ownFaults[p.g.Nodes]+1) {
				quorum = append(quorum, m)
			}
		}
		p.say(liar, r.Id, begun(liar, view, quorum[:min(len(quorum), 2*ownFaults[p.g.Nodes]+1)]...))
	}
}

// twisted is a message that differs from one that was said.
func (p *plot) twisted(m impl.Message) impl.Message {
	switch p.below(6) {
	case 0:
		m.View = max(0, min(20, m.View+p.below(3)-1))
	case 1:
		m.Seq = max(0, min(8, m.Seq+p.below(3)-1))
	case 2:
		m.Kind = 1 + p.below(5)
	case 3:
		m.Digest = ownDigest(body(p.g.Nodes, "lie"))
	case 4:
		m.Body, m.Digest = null, ownDigest(null)
	}
	return m
}

// askStays holds promise 10 for one act: the logs of those that are not Faulty agree, and each only grows.
func (p *plot) askStays(t *testing.T, what string, next impl.Group) {
	t.Helper()
	if !ownLogsAgree(next) || !ownCertsAgree(next) {
		t.Fatalf("%s: logs or certificates part:\n%s", what, groupText(next))
	}
	for id, r := range next.Replicas {
		ahead := p.g.Replicas[id]
		if len(r.Log) < len(ahead.Log) || !slices.Equal(r.Log[:len(ahead.Log)], ahead.Log) || r.View < ahead.View {
			t.Fatalf("%s: replica %d: %s, then %s", what, id, replicaText(ahead), replicaText(r))
		}
		if slices.Contains(p.g.Faulty, id) && !sameReplica(r, fresh(p.g.Nodes, id)) {
			t.Fatalf("%s: the replica of a Faulty node acts: %s", what, replicaText(r))
		}
	}
}

// count tells later whether the runs came by what they are for.
func (p *plot) count(tally map[string]int, a impl.GroupAct, code int, next impl.Group) {
	tally[fmt.Sprint(a.Kind, " ", impl.CodeWord(code))]++
	held := map[[2]int]string{}
	for id, r := range next.Replicas {
		ahead := p.g.Replicas[id]
		tally["logged"] += len(r.Log) - len(ahead.Log)
		if r.View > ahead.View && r.Active || r.Active && !ahead.Active {
			tally["begun"]++
			if r.Slots[0].Body != "" {
				tally["begun with a plan"]++
			}
			if slices.Contains(p.g.Faulty, r.View%p.g.Nodes) {
				tally["begun by a liar"]++
			}
		}
		for at, s := range r.Slots {
			place := [2]int{r.View, at}
			if other, known := held[place]; known && s.Body != "" && other != s.Body {
				tally["parted"]++
			}
			if s.Body != "" {
				held[place] = s.Body
			}
		}
	}
	if a.Kind == impl.GrGive && code == impl.OK && slices.Contains(p.g.Faulty, p.g.Wire[a.N].Message.From) && !slices.Contains(p.g.Faulty, p.g.Wire[a.N].To) {
		tally["believed"]++
	}
}

// run does so many drawn acts, and answers them with their codes.
func (p *plot) run(t *testing.T, what string, count int, tally map[string]int) ([]impl.GroupAct, []int) {
	t.Helper()
	var acts []impl.GroupAct
	var codes []int
	for i := range count {
		a := p.next()
		next, code := impl.GroupStep(p.g, a)
		what := fmt.Sprintf("%s, act %d, %d %d %d: %d", what, i, a.Kind, a.Node, a.N, code)
		if len(next.Replicas) != p.g.Nodes || code == impl.ErrBad || code == impl.ErrLong {
			t.Fatalf("%s: the group is not right any more:\n%s", what, groupText(p.g))
		}
		p.askStays(t, what, next)
		p.count(tally, a, code, next)
		p.g, acts, codes = next, append(acts, a), append(codes, code)
		if i%50 != 49 && i != count-1 {
			continue
		}
		logs, logsCode := impl.LogsAgree(p.g)
		certs, certsCode := impl.CertsAgree(p.g)
		log, logCode := impl.LongestLog(p.g)
		if !logs || !certs || max(logsCode, certsCode, logCode) != impl.OK || !slices.Equal(log, ownLongest(p.g)) || !impl.GroupOK(p.g) {
			t.Fatalf("%s: %v %d %v %d %d:\n%s", what, logs, logsCode, certs, certsCode, logCode, groupText(p.g))
		}
	}
	return acts, codes
}

// Promise 10: whatever comes, and whatever at most f nodes say, the logs of the others are beginnings of one log, and stay.
func TestLiarsDoNotPartTheLogs(t *testing.T) {
	tallies := make([]map[string]int, 80)
	t.Run("runs", func(t *testing.T) {
		for run := range tallies {
			tallies[run] = map[string]int{}
			t.Run(fmt.Sprint(run), func(t *testing.T) {
				t.Parallel()
				nodes := []int{4, 4, 7, 4, 4, 4, 1, 4}[run%8]
				p := newPlot(uint64(880000+500*run), nodes)
				faulty := p.g.Faulty
				acts, codes := p.run(t, fmt.Sprint("run ", run), 300, tallies[run])
				g, same, code := impl.GroupRun(nodes, faulty, acts)
				if code != impl.OK || !slices.Equal(same, codes) {
					t.Errorf("GroupRun: %d, %v, not %v", code, same, codes)
				}
				askSameGroup(t, "GroupRun", g, p.g)
			})
		}
	})
	total := map[string]int{}
	for _, tally := range tallies {
		for word, count := range tally {
			total[word] += count
		}
	}
	for _, word := range []string{
		"1 ok", "1 primary", "1 signed", "1 full", "2 ok", "2 view", "2 twice", "2 held", "2 late", "2 signed", "3 ok", "4 ok", "5 ok", "6 ok",
		"logged", "begun", "begun with a plan", "begun by a liar", "parted", "believed",
	} {
		if total[word] < 5 {
			t.Errorf("the runs came by %q but %d times", word, total[word])
		}
	}
}
