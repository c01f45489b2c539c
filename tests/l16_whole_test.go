package tests

import (
	"fmt"
	"slices"
	"testing"

	"loop.example/g00292/impl"
)

// drawSome draws so many different nodes, rising.
func drawSome(d *drawn, nodes []int, count int) []int {
	list := slices.Clone(nodes)
	mix(d, list)
	list = list[:count]
	slices.Sort(list)
	return list
}

// whole is a service of which all that is promised is looked at together.
type whole struct {
	*chronicle
	tally map[string]int
}

// correct are the nodes that do not lie.
func (x *whole) correct() []int {
	var list []int
	for node := range x.w.Group.Nodes {
		if !slices.Contains(x.w.Group.Faulty, node) {
			list = append(list, node)
		}
	}
	return list
}

// askCertified holds that a grant is certified by f + 1 nodes' signatures; what those that lie sign alone, or of another grant, is no certificate.
func (x *whole) askCertified(t *testing.T, what string, g impl.Grant) {
	t.Helper()
	nodes, index := x.w.Group.Nodes, x.below(8)
	faults := ownFaults[nodes]
	from := drawSome(x.drawn, x.correct(), faults+1)
	c, code := impl.MakeCertificate(nodes, g, from, index)
	if code != impl.OK || c.Grant != g || !slices.Equal(c.Nodes, from) || len(c.Signatures) != faults+1 {
		t.Fatalf("%s: %v by %v: %d", what, g, from, code)
	}
	if code := impl.CheckCertificate(nodes, c); code != impl.OK {
		t.Fatalf("%s: the certificate of %v by %v: %d", what, g, from, code)
	}
	c.Grant.Holder ^= 1
	if code := impl.CheckCertificate(nodes, c); code != impl.ErrSigned {
		t.Fatalf("%s: signatures of %v under another grant: %d", what, g, code)
	}
	if _, code := impl.MakeCertificate(nodes, g, x.w.Group.Faulty, index); code != impl.ErrQuorum {
		t.Fatalf("%s: a certificate by %v alone: %d", what, x.w.Group.Faulty, code)
	}
	x.tally["certified"]++
}

// askHandedOn holds that the table of a log is cut into pieces, voted for and installed as it was, and that no other piece is.
func (x *whole) askHandedOn(t *testing.T, what string, log []string) {
	t.Helper()
	nodes := x.w.Group.Nodes
	table, answers, code := impl.LogTable(nodes, log)
	if code != impl.OK || len(answers) != len(log) {
		t.Fatalf("%s: LogTable %d", what, code)
	}
	b, bytesCode := impl.TableBytes(table)
	pieces, cutCode := impl.CutPieces(b)
	s, madeCode := impl.MakeStable(nodes, len(log), table, drawSome(x.drawn, x.correct(), 2*ownFaults[nodes]+1))
	proofs, proofsCode := impl.ProofsOf(pieces)
	if max(bytesCode, cutCode, madeCode, proofsCode) != impl.OK || !impl.StableOK(nodes, s) || s.Size != len(pieces) || s.Seq != len(log) {
		t.Fatalf("%s: %d %d %d %d, %d pieces", what, bytesCode, cutCode, madeCode, proofsCode, len(pieces))
	}
	askInstalled(t, what, nodes, s, pieces, proofs, table, impl.OK)
	if _, code := impl.MakeStable(nodes, len(log), table, x.w.Group.Faulty); code != impl.ErrQuorum {
		t.Fatalf("%s: a checkpoint by %v alone: %d", what, x.w.Group.Faulty, code)
	}
	odd, at := slices.Clone(pieces), x.below(len(pieces))
	odd[at] = flip(odd[at], x.below(len(odd[at])))
	askInstalled(t, what+", another piece", nodes, s, odd, proofs, impl.Table{}, impl.ErrRoot)
	x.tally["handed on"]++
	x.tally["pieces"] += len(pieces)
}

// askOnTheWay holds promise 20 of the world, of its longest log, and of each correct node's own.
func (x *whole) askOnTheWay(t *testing.T, what string) {
	t.Helper()
	askAgree(t, what, x.w)
	x.askOneHistory(t, what)
	x.askTrue(t, what)
	longest, code := impl.LongestLog(x.w.Group)
	if code != impl.OK {
		t.Fatal(what, code)
	}
	for _, g := range askTold(t, what, x.w) {
		x.askCertified(t, what, g)
	}
	x.askHandedOn(t, what, longest)
	for _, r := range x.honest() {
		if !slices.Equal(r.Log, longest[:len(r.Log)]) {
			t.Fatalf("%s: the log of node %d is no beginning of the longest one", what, r.Id)
		}
		x.askHandedOn(t, fmt.Sprint(what, ", node ", r.Id), r.Log)
	}
}

// settle gives what is on its way, as a console does.
func (x *whole) settle(t *testing.T, what string) {
	t.Helper()
	next, code := impl.Settle(x.w, []int{20, 200, 1000}[x.below(3)])
	if code != impl.OK || next.Time != x.w.Time {
		t.Fatalf("%s: Settle %d", what, code)
	}
	x.w = next
	x.tally["settled"]++
}

func (x *whole) run(t *testing.T, what string) {
	t.Helper()
	for x.w.Time < 150 {
		switch y := x.below(24); {
		case y == 0:
			x.act(t, what, x.next())
		case y == 1:
			x.settle(t, what)
		case y < 6:
			if a, done := x.move(); done {
				x.act(t, what, svGroup(a))
			}
		default:
			x.act(t, what, x.ofClients())
		}
		if x.below(3) == 0 {
			x.rush(x.below(10 * x.g.Nodes))
		}
		if x.w.Time%25 == 0 {
			x.askOnTheWay(t, fmt.Sprint(what, ", at ", x.w.Time))
		}
	}
	x.askOnTheWay(t, what+", at its end")
	x.tally["logged"] += x.logged
	x.tally["grants"] += len(x.grants)
	for _, call := range x.w.Calls {
		if call.End != -1 {
			x.tally["ended"]++
		}
	}
	for _, r := range x.honest() {
		x.tally["views"] += r.View
	}
}

// Promise 20, the theorem of the whole: with at most f that lie, and no lies in the clients' names, correct nodes agree, answers are those of one history, its grants can be certified, and its table can be handed on.
func TestTheWhole(t *testing.T) {
	tallies := make([]map[string]int, 16)
	t.Run("runs", func(t *testing.T) {
		for run := range tallies {
			tallies[run] = map[string]int{}
			t.Run(fmt.Sprint(run), func(t *testing.T) {
				t.Parallel()
				x := &whole{&chronicle{bustle: newBustle(uint64(1690000+900*run), []int{4, 4, 7, 1}[run%4])}, tallies[run]}
				x.run(t, fmt.Sprint("run ", run))
			})
		}
	})
	total := addTallies(tallies)
	for _, word := range []string{"certified", "handed on", "settled", "logged", "grants", "ended", "views"} {
		if total[word] < 20 {
			t.Errorf("the runs came by %q but %d times", word, total[word])
		}
	}
}

// The whole, once, step by step: four nodes, of which one lies; two clients and a lock, a view that is given up, a grant and a table that go their way.
func TestTheWholeStepByStep(t *testing.T) {
	s := &stage{t, freshWorld(4, 3)}
	for node := range 3 {
		s.do(svGroup(impl.GroupAct{Kind: impl.GrTimeout, Node: node}), impl.OK)
	}
	s.giveAll()
	s.ask(10, impl.LkAcquire, 20, "door", 5, told(impl.AnOK, 1, 10, 26))
	s.do(svCall(11, impl.LkAcquire, 30, "door"), impl.OK)
	s.do(svSend(11, 1, 6), impl.OK)
	settled, code := impl.Settle(s.w, 1000)
	if code != impl.OK || len(settled.Group.Wire) > 0 {
		t.Fatal(code, worldText(settled))
	}
	s.w = settled
	s.do(svLie(11, 3, told(impl.AnOK, 9, 11, 99)), impl.OK)
	s.do(svReply(11, 0), impl.OK)
	s.do(svReply(11, 2), impl.OK)
	s.ask(10, impl.LkRelease, 0, "door", 9, told(impl.AnOK, 2, 11, 40))
	askAgree(t, "at the end", s.w)
	if right, code := impl.HistoryOK(s.w); !right || code != impl.OK {
		t.Fatal(right, code)
	}
	log, _ := impl.LongestLog(s.w.Group)
	if times, code := impl.LogTimes(4, log); code != impl.OK || !slices.Equal(times, []int{6, 7, 10}) {
		t.Error(times, code)
	}
	grants, code := impl.LogGrants(4, log)
	if code != impl.OK || !slices.Equal(grants, []impl.Grant{granted("door", 10, 1, 26), granted("door", 11, 2, 40)}) {
		t.Fatal(grants, code)
	}
	c, code := impl.MakeCertificate(4, grants[1], []int{0, 2}, 0)
	if code != impl.OK || impl.CheckCertificate(4, c) != impl.OK {
		t.Error(code)
	}
	table, _, _ := impl.LogTable(4, log)
	b, _ := impl.TableBytes(table)
	pieces, _ := impl.CutPieces(b)
	proofs, _ := impl.ProofsOf(pieces)
	stable, code := impl.MakeStable(4, 3, table, []int{0, 1, 2})
	if code != impl.OK {
		t.Fatal(code)
	}
	askInstalled(t, "the whole", 4, stable, pieces, proofs, table, impl.OK)
	got, _ := impl.InstallTable(4, stable, pieces, proofs)
	lock, code := impl.LockAt(got, "door")
	if code != impl.OK || lock.Holder != 11 || lock.Token != 2 || lock.Expiry != 40 {
		t.Error(lock, code)
	}
}
