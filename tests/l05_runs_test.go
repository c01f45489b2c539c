package tests

import (
	"fmt"
	"math"
	"reflect"
	"slices"
	"testing"

	"loop.example/g00292/impl"
)

// ownLocks does what the document says of locks on plain lists, and remembers each grant that it makes.
type ownLocks struct {
	impl.Table
	made []impl.Grant
}

func (x *ownLocks) grant(l *impl.Lock, client, lease int) {
	l.Holder, l.Token, l.Expiry = client, x.Next, x.Time+lease
	x.Next++
	x.made = append(x.made, impl.Grant{Name: l.Name, Holder: client, Token: l.Token, Expiry: l.Expiry})
}

func (x *ownLocks) free(l *impl.Lock) {
	l.Holder, l.Expiry = -1, 0
	if len(l.Waiters) > 0 {
		first := l.Waiters[0]
		l.Waiters = slices.Clone(l.Waiters[1:])
		x.grant(l, first.Client, first.Lease)
	}
}

func (x *ownLocks) goOn(now int) {
	if now > x.Time {
		x.Time = now
	}
	for i := range x.Locks {
		if l := &x.Locks[i]; l.Holder != -1 && l.Expiry <= x.Time {
			x.free(l)
		}
	}
}

func (x *ownLocks) find(name string) *impl.Lock {
	for i := range x.Locks {
		if x.Locks[i].Name == name {
			return &x.Locks[i]
		}
	}
	return nil
}

func (x *ownLocks) ask(now int, r impl.Request) impl.Answer {
	x.goOn(now)
	at := slices.IndexFunc(x.Seens, func(s impl.Seen) bool { return s.Client == r.Client })
	if at >= 0 && x.Seens[at].Stamp >= r.Stamp {
		if x.Seens[at].Stamp == r.Stamp {
			return x.Seens[at].Answer
		}
		return told(impl.AnOld, 0, -1, 0)
	}
	if at < 0 && len(x.Seens) == 6 {
		return told(impl.AnFull, 0, -1, 0)
	}
	a := told(0, 0, -1, 0)
	a.Kind = x.do(r)
	if l := x.find(r.Name); l != nil {
		a = told(a.Kind, l.Token, l.Holder, l.Expiry)
	}
	if at >= 0 {
		x.Seens = slices.Delete(x.Seens, at, at+1)
	}
	x.Seens = append(x.Seens, seen(r.Client, r.Stamp, a))
	slices.SortFunc(x.Seens, func(a, b impl.Seen) int { return a.Client - b.Client })
	return a
}

func (x *ownLocks) do(r impl.Request) int {
	l := x.find(r.Name)
	if l == nil {
		if r.Kind != impl.LkAcquire {
			return impl.AnNone
		}
		if len(x.Locks) == 4 {
			return impl.AnFull
		}
		x.Locks = append(x.Locks, lock(r.Name, 0, -1, 0))
		slices.SortFunc(x.Locks, func(a, b impl.Lock) int { return slices.Compare([]byte(a.Name), []byte(b.Name)) })
		l = x.find(r.Name)
	}
	waits := slices.IndexFunc(l.Waiters, func(w impl.Waiter) bool { return w.Client == r.Client })
	switch {
	case r.Kind == impl.LkAcquire && (l.Holder == r.Client || waits >= 0):
		return impl.AnTwice
	case r.Kind == impl.LkAcquire && l.Holder == -1:
		x.grant(l, r.Client, r.Lease)
		return impl.AnOK
	case r.Kind == impl.LkAcquire && len(l.Waiters) == 4:
		return impl.AnFull
	case r.Kind == impl.LkAcquire:
		l.Waiters = append(l.Waiters, waiter(r.Client, r.Lease))
		return impl.AnWait
	case r.Kind == impl.LkRelease && waits >= 0:
		l.Waiters = slices.Delete(l.Waiters, waits, waits+1)
		return impl.AnOK
	case l.Holder == -1:
		return impl.AnFree
	case r.Kind == impl.LkQuery || l.Holder != r.Client:
		return impl.AnHeld
	case r.Kind == impl.LkRenew:
		l.Expiry = x.Time + r.Lease
	case r.Kind == impl.LkRelease:
		x.free(l)
	}
	return impl.AnOK
}

// standing are the grants made since the last call of it that are still held.
func (x *ownLocks) standing() []impl.Grant {
	var list []impl.Grant
	for _, g := range x.made {
		if l := x.find(g.Name); l.Token == g.Token && l.Holder != -1 {
			g.Expiry = l.Expiry
			list = append(list, g)
		}
	}
	x.made = nil
	return list
}

func ownLocksOf(x impl.Table) *ownLocks { return &ownLocks{Table: copyTable(x)} }

// drawn hands out numbers that look disordered, the same ones for the same seed.
type drawn struct {
	seed uint64
	rest []byte
}

func (d *drawn) below(most int) int {
	if len(d.rest) < 2 {
		d.seed++
		d.rest = noise(d.seed*77, 512)
	}
	x := int(d.rest[0])<<8 | int(d.rest[1])
	d.rest = d.rest[2:]
	return x % most
}

// drawRun draws requests of clients that mostly go on, sometimes ask again or late, at times that mostly rise.
func drawRun(d *drawn, count int) ([]impl.Request, []int) {
	var list []impl.Request
	var times []int
	clients, names, lease := 2+d.below(7), 1+d.below(6), 1+d.below(30)
	stamps := make([]int, clients)
	now := 0
	for range count {
		client := d.below(clients)
		stamp := stamps[client] + 1
		switch d.below(12) {
		case 0:
			stamp = max(1, stamps[client])
		case 1:
			stamp = max(1, stamps[client]-1-d.below(3))
		case 2:
			stamp += d.below(5)
		}
		stamps[client] = max(stamps[client], stamp)
		r := request(client*36, stamp, []int{1, 1, 1, 2, 2, 3, 4}[d.below(7)], 0, string(rune('a'+d.below(names))))
		if r.Kind == impl.LkAcquire || r.Kind == impl.LkRenew {
			r.Lease = 1 + d.below(lease)
		}
		now += d.below(5)
		list = append(list, r)
		times = append(times, max(0, now-d.below(2)*d.below(9)))
	}
	return list, times
}

func TestDrawnRunsAgainstLists(t *testing.T) {
	d := &drawn{}
	kinds := map[int]int{}
	for run := range 400 {
		list, times := drawRun(d, 1+d.below(200))
		own, x := ownLocksOf(emptyTable()), emptyTable()
		var answers []impl.Answer
		var grants []impl.Grant
		for i, r := range list {
			want := own.ask(times[i], r)
			expired, code := impl.ExpireLocks(x, times[i])
			alone := ownLocksOf(x)
			alone.goOn(times[i])
			askSameTable(t, fmt.Sprint("run ", run, ", ExpireLocks ", i, " ", code), expired, alone.Table)
			y, a, code := impl.ApplyRequest(x, times[i], r)
			if a != want || code != impl.OK || tableText(y) != tableText(own.Table) {
				t.Fatalf("run %d, request %d, %v at %d on %v: %v %v %d, not %v %v", run, i, r, times[i], x, y, a, code, own.Table, want)
			}
			kinds[10*r.Kind+a.Kind]++
			answers, grants, x = append(answers, a), append(grants, own.standing()...), y
		}
		y, told, code := impl.RunRequests(list, times)
		if !slices.Equal(told, answers) || code != impl.OK || tableText(y) != tableText(x) {
			t.Fatalf("run %d: RunRequests %v %v %d", run, y, told, code)
		}
		if got, code := impl.GrantsOf(list, times); !slices.Equal(got, grants) || code != impl.OK {
			t.Fatalf("run %d: GrantsOf %v %d, not %v", run, got, code, grants)
		}
	}
	// The runs are worth little unless each kind of request meets each of its answers.
	for _, kind := range []int{11, 12, 16, 17, 18, 21, 23, 24, 25, 26, 27, 31, 33, 34, 35, 36, 37, 43, 44, 45, 46, 47} {
		if kinds[kind] < 20 {
			t.Errorf("request %d was answered %d %d times", kind/10, kind%10, kinds[kind])
		}
	}
}

// Promise 6, step by step, told by the tables on both sides of a request alone.
func TestDrawnRunsKeepThePromise(t *testing.T) {
	d := &drawn{seed: 5000}
	for run := range 400 {
		list, times := drawRun(d, 200)
		x := emptyTable()
		for i, r := range list {
			y, a, _ := impl.ApplyRequest(x, times[i], r)
			if !impl.TableOK(y) || y.Time < x.Time || y.Next < x.Next {
				t.Fatalf("run %d, request %d: %v behind %v", run, i, y, x)
			}
			for _, l := range y.Locks {
				askStep(t, fmt.Sprint("run ", run, ", request ", i, " ", r), x, y, l, r)
			}
			if z, again, _ := impl.ApplyRequest(y, times[i]+i%3, r); again != a {
				t.Fatalf("run %d, request %d: %v, then %v of %v", run, i, a, again, z)
			}
			x = y
		}
		askTokens(t, list, times, x)
	}
}

// askStep holds a lock to what it was ahead of a request.
func askStep(t *testing.T, what string, x, y impl.Table, l impl.Lock, r impl.Request) {
	t.Helper()
	before, code := impl.LockAt(x, l.Name)
	if code != impl.OK {
		before = lock(l.Name, 0, -1, 0)
	}
	if l.Token < before.Token {
		t.Fatalf("%s: %v behind %v, its token falls", what, l, before)
	}
	letGo := r.Kind == impl.LkRelease && r.Client == before.Holder
	if l.Token != before.Token && before.Holder != -1 && before.Expiry > y.Time && !letGo {
		t.Fatalf("%s: %v behind %v at %d, granted anew while its lease runs", what, l, before, y.Time)
	}
	if l.Token == before.Token && l.Holder != before.Holder && l.Holder != -1 || l.Token != before.Token && l.Token < x.Next {
		t.Fatalf("%s: %v behind %v, held under an old token", what, l, before)
	}
	order := []int{before.Holder}
	for _, w := range before.Waiters {
		order = append(order, w.Client)
	}
	order = append(order, r.Client)
	for _, client := range append([]impl.Waiter{waiter(l.Holder, 0)}, l.Waiters...) {
		at := slices.Index(order, client.Client)
		if at < 0 && client.Client != -1 {
			t.Fatalf("%s: %v behind %v, out of its order", what, l, before)
		}
		order = order[at+1:]
	}
}

// askTokens holds a run's grants to their tokens: all rise, none has another's, none is beyond the table's.
func askTokens(t *testing.T, list []impl.Request, times []int, x impl.Table) {
	t.Helper()
	grants, code := impl.GrantsOf(list, times)
	last := 0
	for _, g := range grants {
		if g.Token <= last || g.Token >= x.Next || code != impl.OK {
			t.Fatalf("GrantsOf %v: %v behind %d", list, g, last)
		}
		last = g.Token
	}
	for _, l := range x.Locks {
		g := impl.Grant{Name: l.Name, Holder: l.Holder, Token: l.Token, Expiry: l.Expiry}
		at := slices.IndexFunc(grants, func(other impl.Grant) bool { return other.Token == l.Token })
		if l.Holder != -1 && (at < 0 || grants[at].Name != g.Name || grants[at].Holder != g.Holder) {
			t.Fatalf("GrantsOf %v: %v is not among them", list, g)
		}
	}
}

// Those that wait hold the lock one behind the other, whether leases end or holders let go.
func TestWaitersHoldInTheirOrder(t *testing.T) {
	for pattern := range 16 {
		var list []impl.Request
		var times []int
		for client := range 5 {
			list, times = append(list, request(client, 1, impl.LkAcquire, 10, "a")), append(times, 0)
		}
		now := 0
		var want []int
		for client := range 5 {
			want = append(want, client)
			if pattern>>client&1 == 1 {
				now++
				list = append(list, request(client, 2, impl.LkRelease, 0, "a"))
			} else {
				now += 10
				list = append(list, request(5, 1+client, impl.LkQuery, 0, "a"))
			}
			times = append(times, now)
		}
		grants, code := impl.GrantsOf(list, times)
		var got []int
		for i, g := range grants {
			got = append(got, g.Holder)
			if g.Token != i+1 {
				t.Errorf("pattern %b: %v", pattern, g)
			}
		}
		x, _, _ := impl.RunRequests(list, times)
		if !slices.Equal(got, want) || code != impl.OK || x.Locks[0].Holder != -1 || x.Next != 6 {
			t.Errorf("pattern %b: %v %d %v", pattern, grants, code, x)
		}
	}
}

func TestRunOfNothing(t *testing.T) {
	for _, list := range [][]impl.Request{nil, {}} {
		for _, times := range [][]int{nil, {}} {
			x, answers, code := impl.RunRequests(list, times)
			askSameTable(t, "RunRequests of nothing", x, emptyTable())
			if len(answers) != 0 || code != impl.OK {
				t.Errorf("RunRequests of nothing: %v %d", answers, code)
			}
			if grants, code := impl.GrantsOf(list, times); len(grants) != 0 || code != impl.OK {
				t.Errorf("GrantsOf nothing: %v %d", grants, code)
			}
		}
	}
}

// askRunCode asks both functions of runs for a code, and for zeros unless it is OK.
func askRunCode(t *testing.T, what string, list []impl.Request, times []int, want int) {
	t.Helper()
	x, answers, code := impl.RunRequests(list, times)
	grants, code2 := impl.GrantsOf(list, times)
	if code != want || code2 != want {
		t.Errorf("%s: %d requests, %d times: %d %d, not %d", what, len(list), len(times), code, code2, want)
	}
	if want != impl.OK && (!reflect.DeepEqual(x, impl.Table{}) || answers != nil || grants != nil) {
		t.Errorf("%s: %v %v %v", what, x, answers, grants)
	}
}

func TestRunCounts(t *testing.T) {
	right := request(1, 1, impl.LkQuery, 0, "a")
	for _, count := range []int{0, 1, 2, 199, 200, 201, 202, 256, impl.MaxList - 1, impl.MaxList, impl.MaxList + 1, 3 * impl.MaxList} {
		for _, more := range []int{-4500, -2, -1, 0, 1, 2, 4500} {
			sizes := max(0, count+more)
			code := impl.OK
			if count > impl.MaxList || sizes > impl.MaxList {
				code = impl.ErrLong
			} else if count > 200 || sizes != count {
				code = impl.ErrMany
			}
			list, times := slices.Repeat([]impl.Request{right}, count), make([]int, sizes)
			askRunCode(t, "right ones", list, times, code)
			if count == 0 || sizes == 0 {
				continue
			}
			list[count-1].Kind, times[0] = 9, -1
			if code == impl.OK {
				code = impl.ErrBad
			}
			askRunCode(t, "wrong ones", list, times, code)
		}
	}
}

func TestRunTimes(t *testing.T) {
	for _, count := range []int{1, 2, 200} {
		for _, at := range []int{0, count / 2, count - 1} {
			for _, now := range append(edges(0, topTime), 1<<32, math.MaxInt32) {
				times := make([]int, count)
				times[at] = now
				code := impl.OK
				if now < 0 || now > topTime {
					code = impl.ErrBad
				}
				askRunCode(t, fmt.Sprint("time ", now), slices.Repeat([]impl.Request{request(1, 1, impl.LkQuery, 0, "a")}, count), times, code)
			}
		}
	}
}

// 200 requests, each of which makes a grant.
func TestRunOfTheMost(t *testing.T) {
	var list []impl.Request
	var times []int
	for i := range 200 {
		list = append(list, request(i%6, i+1, impl.LkAcquire, 1, string(rune('a'+i%4))))
		times = append(times, 5*i)
	}
	x, answers, code := impl.RunRequests(list, times)
	grants, code2 := impl.GrantsOf(list, times)
	if len(answers) != 200 || len(grants) != 200 || code != impl.OK || code2 != impl.OK || x.Next != 201 || x.Time != 995 {
		t.Fatal(len(answers), len(grants), code, code2, x)
	}
	for i, g := range grants {
		if g != (impl.Grant{Name: list[i].Name, Holder: i % 6, Token: i + 1, Expiry: 5*i + 1}) || answers[i] != told(impl.AnOK, i+1, i%6, 5*i+1) {
			t.Errorf("%d: %v %v", i, g, answers[i])
		}
	}
}

func askGrants(t *testing.T, what string, list []impl.Request, times []int, want ...impl.Grant) {
	t.Helper()
	if got, code := impl.GrantsOf(list, times); !slices.Equal(got, want) || code != impl.OK {
		t.Errorf("GrantsOf, %s: %v %d, not %v", what, got, code, want)
	}
}

func granted(name string, holder, token, expiry int) impl.Grant {
	return impl.Grant{Name: name, Holder: holder, Token: token, Expiry: expiry}
}

// Grants of one request stand by their tokens, not by their names; those that it let go again are not told.
func TestGrantsOfOneRequest(t *testing.T) {
	list := []impl.Request{
		request(1, 1, impl.LkAcquire, 10, "b"), request(2, 1, impl.LkAcquire, 20, "b"), request(3, 1, impl.LkAcquire, 30, "b"),
		request(1, 2, impl.LkAcquire, 10, "c"), request(2, 2, impl.LkAcquire, 40, "c"),
	}
	times := []int{0, 0, 0, 0, 0}
	first := []impl.Grant{granted("b", 1, 1, 10), granted("c", 1, 2, 10)}
	then := func(what string, now int, r impl.Request, want ...impl.Grant) {
		t.Helper()
		askGrants(t, what, append(slices.Clone(list), r), append(slices.Clone(times), now), slices.Concat(first, want)...)
	}
	then("nothing is over", 9, request(4, 1, impl.LkQuery, 0, "b"))
	then("two are over", 10, request(4, 1, impl.LkQuery, 0, "b"), granted("b", 2, 3, 30), granted("c", 2, 4, 50))
	then("two are over, a third is made", 10, request(4, 1, impl.LkAcquire, 5, "a"), granted("b", 2, 3, 30), granted("c", 2, 4, 50), granted("a", 4, 5, 15))
	then("one is let go", 9, request(1, 3, impl.LkRelease, 0, "c"), granted("c", 2, 3, 49))
	then("let go at once, to the next", 10, request(2, 3, impl.LkRelease, 0, "b"), granted("c", 2, 4, 50), granted("b", 3, 5, 40))
	then("let go at once, to nobody", 10, request(2, 3, impl.LkRelease, 0, "c"), granted("b", 2, 3, 30))
	then("renewed at once", 10, request(2, 3, impl.LkRenew, 500, "c"), granted("b", 2, 3, 30), granted("c", 2, 4, 510))
	then("one waits no more", 10, request(3, 2, impl.LkRelease, 0, "b"), granted("b", 2, 3, 30), granted("c", 2, 4, 50))
	then("told again", 10, list[4], granted("b", 2, 3, 30), granted("c", 2, 4, 50))
	then("too late", 10, list[3], granted("b", 2, 3, 30), granted("c", 2, 4, 50))
	then("it waits", 9, request(4, 1, impl.LkAcquire, 5, "b"))
	then("renewed while it runs", 9, request(1, 3, impl.LkRenew, 5, "b"))
}

// roomyTable is a table whose lists have elements behind their ends; the text tells them too.
func roomyTable(x impl.Table) (impl.Table, func() string) {
	x = copyTable(x)
	locks := append(x.Locks, lock("behind", 71, 72, 73, waiter(74, 75)), lock("behind", 76, 77, 78))
	seens := append(x.Seens, seen(81, 82, told(1, 83, 84, 85)), seen(86, 87, told(2, 88, 89, 90)))
	var all [][]impl.Waiter
	for i := range locks {
		whole := append(slices.Clone(locks[i].Waiters), waiter(91, 92), waiter(93, 94), waiter(95, 96))
		all = append(all, whole)
		locks[i].Waiters = whole[:len(locks[i].Waiters)]
	}
	x.Locks, x.Seens = locks[:len(x.Locks)], seens[:len(x.Seens)]
	return x, func() string { return fmt.Sprintf("%+v %+v %+v %+v", x, locks, seens, all) }
}

// ruinTable writes into all memory that a table has.
func ruinTable(x impl.Table) {
	for i := range x.Locks {
		for at, w := range x.Locks[i].Waiters[:cap(x.Locks[i].Waiters)] {
			x.Locks[i].Waiters[:cap(x.Locks[i].Waiters)][at] = waiter(w.Client+1000, w.Lease+1000)
		}
	}
	for at := range x.Locks[:cap(x.Locks)] {
		x.Locks[:cap(x.Locks)][at] = lock("ruined", -9, -9, -9)
	}
	for at := range x.Seens[:cap(x.Seens)] {
		x.Seens[:cap(x.Seens)][at] = seen(-9, -9, told(-9, -9, -9, -9))
	}
}

// tableSteps are the calls that answer a table made of another one, and LockAt, its lock being the table's only one.
func tableSteps() map[string]func(x impl.Table) impl.Table {
	steps := map[string]func(x impl.Table) impl.Table{
		"LockAt": func(x impl.Table) impl.Table {
			l, _ := impl.LockAt(x, "Zoo")
			return impl.Table{Locks: []impl.Lock{l}}
		},
	}
	for _, now := range []int{-1, 0, 600, topTime} {
		steps[fmt.Sprint("ExpireLocks ", now)] = func(x impl.Table) impl.Table { y, _ := impl.ExpireLocks(x, now); return y }
		for i, r := range []impl.Request{
			request(8, 999, impl.LkRelease, 0, "Zoo"), request(7, 999, impl.LkRelease, 0, "Zoo"), request(9, 999, impl.LkAcquire, 5, "a"), request(9, 999, impl.LkAcquire, 5, "_"),
			request(7, 999, impl.LkRenew, 5, "Zoo"), request(1, 65535, impl.LkQuery, 0, "a"), request(77, 1, impl.LkQuery, 0, "a"), request(9, 1, impl.LkQuery, 0, "a"), {},
			request(0, 999, impl.LkAcquire, 5, "a23456789012"), request(255, 999, impl.LkQuery, 0, "a"),
		} {
			steps[fmt.Sprint("ApplyRequest ", now, " ", i)] = func(x impl.Table) impl.Table { y, _, _ := impl.ApplyRequest(x, now, r); return y }
		}
	}
	return steps
}

// Promise 1, of tables: arguments stay, what stands behind their ends too, and answers share no memory with them.
func TestTablesAreKeptAndNew(t *testing.T) {
	used := fullTable()
	used.Next = 999001
	for _, table := range append(someTables(), used, wrongTables()[4]) {
		for what, step := range tableSteps() {
			x, text := roomyTable(table)
			ahead := text()
			y := step(x)
			told := tableText(y)
			if text() != ahead {
				t.Fatalf("%s writes into its table: %s, then %s", what, ahead, text())
			}
			ruinTable(y)
			if text() != ahead {
				t.Fatalf("%s: its table changes with its answer", what)
			}
			y = step(x)
			ruinTable(x)
			if tableText(y) != told {
				t.Fatalf("%s: its answer changes with its table, or is told otherwise again", what)
			}
			var waiters [][]impl.Waiter
			for _, l := range y.Locks {
				waiters = append(waiters, l.Waiters)
			}
			askApart(t, what, func(list int) impl.Waiter { return waiter(list, list) }, waiters...)
		}
		x, text := roomyTable(table)
		ahead := text()
		impl.TableOK(x)
		impl.SameTable(x, x)
		impl.TableBytes(x)
		impl.TableDigest(x)
		if text() != ahead {
			t.Error("a call that tells of a table writes into it")
		}
	}
}

func TestRunsAreKeptAndNew(t *testing.T) {
	d := &drawn{seed: 900}
	for range 40 {
		list, times := drawRun(d, 60)
		askKept(t, "RunRequests", list, request(9, 9, 9, 9, "behind"), func(list []impl.Request) {
			askKept(t, "RunRequests", times, 77, func(times []int) {
				x, answers, _ := impl.RunRequests(list, times)
				grants, _ := impl.GrantsOf(list, times)
				ahead := fmt.Sprint(x, answers, grants)
				ruinTable(x)
				clear(answers[:cap(answers)])
				clear(grants[:cap(grants)])
				x, answers, _ = impl.RunRequests(list, times)
				grants, _ = impl.GrantsOf(list, times)
				if fmt.Sprint(x, answers, grants) != ahead {
					t.Error("a run is told otherwise again")
				}
			})
		})
	}
}

// Bytes of tables are new, and those that were read are let go.
func TestTableBytesAreNew(t *testing.T) {
	for _, table := range someTables() {
		b, _ := impl.TableBytes(table)
		x, _ := impl.ReadTable(b)
		ahead := string(b)
		ruinTable(x)
		again, _ := impl.TableBytes(table)
		clear(b[:cap(b)])
		if string(again) != ahead {
			t.Error("bytes of tables share memory")
		}
		x, _ = impl.ReadTable(again)
		clear(again)
		askSameTable(t, "bytes that are gone", x, table)
	}
}
