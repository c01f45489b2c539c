package tests

import (
	"fmt"
	"math"
	"reflect"
	"slices"
	"testing"

	"loop.example/g00292/impl"
)

func request(client, stamp, kind, lease int, name string) impl.Request {
	return impl.Request{Client: client, Stamp: stamp, Kind: kind, Lease: lease, Name: name}
}

// held is a table at time 50 with one lock that is held until 100.
func held(waiters ...impl.Waiter) impl.Table {
	return impl.Table{Time: 50, Next: 8, Locks: []impl.Lock{lock("a", 3, 1, 100, waiters...)}}
}

func askExpired(t *testing.T, what string, x impl.Table, now int, want impl.Table) {
	t.Helper()
	what = fmt.Sprint("ExpireLocks at ", now, ", ", what)
	got, code := impl.ExpireLocks(x, now)
	askSameTable(t, what, got, want)
	if code != impl.OK || !impl.TableOK(got) {
		t.Errorf("%s: %d, right: %v", what, code, impl.TableOK(got))
	}
}

// A lease is over at just its Expiry, no earlier.
func TestLeaseIsOver(t *testing.T) {
	for _, now := range []int{0, 1, 49, 50, 51, 98, 99, 100, 101, 150, topTime} {
		free, next, running := held(), held(waiter(7, 20), waiter(5, 30)), held(waiter(7, 20), waiter(5, 30))
		free.Time, next.Time, running.Time = max(now, 50), max(now, 50), max(now, 50)
		free.Locks[0] = lock("a", 3, -1, 0)
		next.Next, next.Locks[0] = 9, lock("a", 8, 7, max(now, 50)+20, waiter(5, 30))
		if now >= 100 {
			askExpired(t, "nobody waits", held(), now, free)
			askExpired(t, "two wait", held(waiter(7, 20), waiter(5, 30)), now, next)
			continue
		}
		alone := held()
		alone.Time = max(now, 50)
		askExpired(t, "nobody waits", held(), now, alone)
		askExpired(t, "two wait", held(waiter(7, 20), waiter(5, 30)), now, running)
	}
}

// Leases that are over are freed though time does not go on, which it never does backwards.
func TestLeaseIsOverThoughTimeStands(t *testing.T) {
	for _, expiry := range []int{0, 1, 199, 200, 201} {
		for _, now := range []int{0, 1, 199, 200} {
			x := impl.Table{Time: 200, Next: 8, Locks: []impl.Lock{lock("a", 3, 0, expiry), lock("b", 4, 1, expiry, waiter(0, 1))}}
			want := copyTable(x)
			if expiry <= 200 {
				want.Next = 9
				want.Locks = []impl.Lock{lock("a", 3, -1, 0), lock("b", 8, 0, 201)}
			}
			askExpired(t, fmt.Sprint("Expiry ", expiry), x, now, want)
		}
	}
	x := impl.Table{Next: 2, Locks: []impl.Lock{lock("a", 1, 0, 0)}}
	askExpired(t, "Expiry and Time 0", x, 0, impl.Table{Next: 2, Locks: []impl.Lock{lock("a", 1, -1, 0)}})
}

func TestSeveralLeasesAreOver(t *testing.T) {
	x := impl.Table{Time: 10, Next: 40, Locks: []impl.Lock{
		lock("Z", 30, 1, 60, waiter(2, 1), waiter(3, 1), waiter(4, 1000)),
		lock("a", 39, 2, 61),
		lock("b", 7, 1, 90, waiter(9, 5)),
		lock("c", 0, 3, 20, waiter(1, 1000)),
	}, Seens: []impl.Seen{seen(1, 5, told(impl.AnOK, 30, 1, 60))}}
	want := impl.Table{Time: 61, Next: 42, Locks: []impl.Lock{
		lock("Z", 40, 2, 62, waiter(3, 1), waiter(4, 1000)),
		lock("a", 39, -1, 0),
		lock("b", 7, 1, 90, waiter(9, 5)),
		lock("c", 41, 1, 1061),
	}, Seens: x.Seens}
	askExpired(t, "four locks", x, 61, want)
	then := impl.Table{Time: topTime, Next: 44, Locks: []impl.Lock{
		lock("Z", 42, 3, topTime+1, waiter(4, 1000)),
		lock("a", 39, -1, 0),
		lock("b", 43, 9, topTime+5),
		lock("c", 41, -1, 0),
	}, Seens: x.Seens}
	askExpired(t, "four locks, at the last time", want, topTime, then)
	askExpired(t, "leases that run beyond the last time", then, topTime, then)
}

// A lease that begins when another is over runs from then on, however far beyond it time went.
func TestFreedOnceOnly(t *testing.T) {
	x := held(waiter(2, 1), waiter(3, 1), waiter(4, 1))
	for i, now := range []int{500, 501, 900} {
		want := impl.Table{Time: now, Next: 9 + i, Locks: []impl.Lock{lock("a", 8+i, 2+i, now+1, x.Locks[0].Waiters[1:]...)}}
		askExpired(t, "a lease of 1", x, now, want)
		askExpired(t, "told again", want, now, want)
		x = want
	}
}

func TestExpireCodes(t *testing.T) {
	for _, x := range append(someTables(), wrongTables()...) {
		for _, next := range []int{x.Next, 998999, 999000, 999001, 999002, topNext, topNext + 1} {
			x := copyTable(x)
			x.Next = next
			for _, now := range append(edges(0, topTime), 1<<32+5, math.MaxInt32) {
				askStepCodes(t, x, now)
			}
		}
	}
}

// askStepCodes asks for the codes of one step, ErrBad ahead of ErrRange ahead of ErrUsed, and for what is told with them.
func askStepCodes(t *testing.T, x impl.Table, now int) {
	t.Helper()
	r := rightRequest(impl.LkQuery)
	y, code := impl.ExpireLocks(x, now)
	z, a, code2 := impl.ApplyRequest(x, now, r)
	what := fmt.Sprint("Next ", x.Next, " at ", now)
	switch {
	case !impl.TableOK(x) || now < 0 || now > topTime:
		want := impl.ErrRange
		if !impl.TableOK(x) {
			want = impl.ErrBad
		}
		if code != want || code2 != want || !reflect.DeepEqual(y, impl.Table{}) || !reflect.DeepEqual(z, impl.Table{}) || a != (impl.Answer{}) {
			t.Errorf("%s: %d %d, not %d; %v %v %v", what, code, code2, want, y, z, a)
		}
	case x.Next > 999000:
		if code != impl.ErrUsed || code2 != impl.ErrUsed || a != (impl.Answer{}) {
			t.Errorf("%s: %d %d, %v", what, code, code2, a)
		}
		askSameTable(t, what, y, x)
		askSameTable(t, what, z, x)
	default:
		if code != impl.OK || code2 != impl.OK || a == (impl.Answer{}) || !impl.TableOK(y) || !impl.TableOK(z) {
			t.Errorf("%s: %d %d, %v", what, code, code2, a)
		}
	}
}

// A request that is not right is ErrBad ahead of all else.
func TestApplyWrongRequests(t *testing.T) {
	used := fullTable()
	used.Next = 999001
	wrong := []impl.Request{
		{}, request(-1, 1, impl.LkQuery, 0, "a"), request(256, 1, impl.LkQuery, 0, "a"), request(1, 0, impl.LkQuery, 0, "a"), request(1, 65536, impl.LkQuery, 0, "a"),
		request(1, 1, 0, 0, "a"), request(1, 1, 5, 0, "a"), request(1, 1, impl.LkQuery, 1, "a"), request(1, 1, impl.LkRelease, 1, "a"), request(1, 1, impl.LkAcquire, 0, "a"),
		request(1, 1, impl.LkAcquire, 1001, "a"), request(1, 1, impl.LkRenew, 0, "a"), request(1, 1, impl.LkRenew, 1001, "a"), request(1, 1, impl.LkQuery, 0, ""),
		request(1, 1, impl.LkQuery, 0, "9"), request(1, 1, impl.LkQuery, 0, "a234567890123"), request(1, 1, impl.LkQuery, 0, longText()),
		request(math.MinInt, math.MaxInt, math.MinInt, math.MaxInt, "a"), request(1<<32+1, 1, impl.LkQuery, 0, "a"),
	}
	for _, r := range wrong {
		for _, x := range []impl.Table{fullTable(), used, {}} {
			for _, now := range []int{0, -1, topTime + 1} {
				y, a, code := impl.ApplyRequest(x, now, r)
				if !reflect.DeepEqual(y, impl.Table{}) || a != (impl.Answer{}) || code != impl.ErrBad {
					t.Errorf("ApplyRequest %.80v at %d: %v %v %d", r, now, y, a, code)
				}
			}
		}
		for _, list := range [][]impl.Request{{r}, {request(1, 1, impl.LkQuery, 0, "a"), r}, append(slices.Repeat([]impl.Request{request(1, 1, impl.LkQuery, 0, "a")}, 199), r)} {
			askRunCode(t, "a wrong request", list, make([]int, len(list)), impl.ErrBad)
		}
	}
}

// lockRoom is a table in which client 1 meets a lock of every kind; each is known by what it is to that client.
func lockRoom() impl.Table {
	return impl.Table{Time: 100, Next: 10,
		Locks: []impl.Lock{
			lock("free", 2, -1, 0),
			lock("mine", 3, 1, 150),
			lock("other", 4, 2, 160, waiter(3, 30)),
			lock("queue", 5, 2, 170, waiter(4, 40), waiter(1, 10), waiter(5, 50), waiter(6, 60)),
		},
		Seens: []impl.Seen{seen(0, 9, told(impl.AnWait, 5, 2, 170)), seen(3, 6, told(impl.AnNone, 0, -1, 0))},
	}
}

// askApplied holds what a request at a time is told, and the table behind it: all locks as they were but one, Next, and the client's Seen.
func askApplied(t *testing.T, what string, x impl.Table, now int, r impl.Request, want impl.Answer, next int, changed ...impl.Lock) {
	t.Helper()
	y := copyTable(x)
	y.Time, y.Next = max(now, x.Time), next
	for _, l := range changed {
		y.Locks = slices.DeleteFunc(y.Locks, func(other impl.Lock) bool { return other.Name == l.Name })
		y.Locks = append(y.Locks, l)
	}
	slices.SortFunc(y.Locks, func(a, b impl.Lock) int { return slices.Compare([]byte(a.Name), []byte(b.Name)) })
	y.Seens = slices.DeleteFunc(y.Seens, func(s impl.Seen) bool { return s.Client == r.Client })
	y.Seens = append(y.Seens, seen(r.Client, r.Stamp, want))
	slices.SortFunc(y.Seens, func(a, b impl.Seen) int { return a.Client - b.Client })
	askAnswer(t, what, x, now, r, want, y)
}

func askAnswer(t *testing.T, what string, x impl.Table, now int, r impl.Request, want impl.Answer, behind impl.Table) {
	t.Helper()
	what = fmt.Sprint("ApplyRequest ", r, " at ", now, ", ", what)
	got, a, code := impl.ApplyRequest(x, now, r)
	if a != want || code != impl.OK || !impl.TableOK(got) {
		t.Errorf("%s: %v %d, not %v", what, a, code, want)
	}
	askSameTable(t, what, got, behind)
}

func TestAcquire(t *testing.T) {
	x := lockRoom()
	acquire := func(client int, name string) impl.Request { return request(client, 7, impl.LkAcquire, 25, name) }
	askApplied(t, "no room", x, 120, acquire(1, "none"), told(impl.AnFull, 0, -1, 0), 10)
	askApplied(t, "free", x, 120, acquire(1, "free"), told(impl.AnOK, 10, 1, 145), 11, lock("free", 10, 1, 145))
	askApplied(t, "its own", x, 120, acquire(1, "mine"), told(impl.AnTwice, 3, 1, 150), 10)
	askApplied(t, "another's", x, 120, acquire(1, "other"), told(impl.AnWait, 4, 2, 160), 10, lock("other", 4, 2, 160, waiter(3, 30), waiter(1, 25)))
	askApplied(t, "it waits", x, 120, acquire(1, "queue"), told(impl.AnTwice, 5, 2, 170), 10)
	askApplied(t, "four wait", x, 120, acquire(9, "queue"), told(impl.AnFull, 5, 2, 170), 10)
	askApplied(t, "the first waits", x, 120, acquire(4, "queue"), told(impl.AnTwice, 5, 2, 170), 10)
	askApplied(t, "the last waits", x, 120, acquire(6, "queue"), told(impl.AnTwice, 5, 2, 170), 10)
	askApplied(t, "the holder", x, 120, acquire(2, "queue"), told(impl.AnTwice, 5, 2, 170), 10)
	askApplied(t, "time stands", x, 3, acquire(1, "free"), told(impl.AnOK, 10, 1, 125), 11, lock("free", 10, 1, 125))
	x.Locks[3].Waiters = x.Locks[3].Waiters[:3]
	askApplied(t, "three wait", x, 120, acquire(9, "queue"), told(impl.AnWait, 5, 2, 170), 10, lock("queue", 5, 2, 170, waiter(4, 40), waiter(1, 10), waiter(5, 50), waiter(9, 25)))
	for i := range 4 {
		x := lockRoom()
		x.Locks = slices.Delete(x.Locks, i, i+1)
		for _, name := range []string{"A", "gate", "mind", "mint", "z"} {
			askApplied(t, "a new lock", x, 120, acquire(1, name), told(impl.AnOK, 10, 1, 145), 11, lock(name, 10, 1, 145))
		}
	}
	askApplied(t, "the first lock", emptyTable(), topTime, request(255, 65535, impl.LkAcquire, 1000, "a23456789012"), told(impl.AnOK, 1, 255, topTime+1000), 2, lock("a23456789012", 1, 255, topTime+1000))
	askApplied(t, "the least one", emptyTable(), 0, request(0, 1, impl.LkAcquire, 1, "_"), told(impl.AnOK, 1, 0, 1), 2, lock("_", 1, 0, 1))
}

func TestRelease(t *testing.T) {
	x := lockRoom()
	release := func(client int, name string) impl.Request { return request(client, 7, impl.LkRelease, 0, name) }
	askApplied(t, "none", x, 120, release(1, "none"), told(impl.AnNone, 0, -1, 0), 10)
	askApplied(t, "free", x, 120, release(1, "free"), told(impl.AnFree, 2, -1, 0), 10)
	askApplied(t, "its own", x, 120, release(1, "mine"), told(impl.AnOK, 3, -1, 0), 10, lock("mine", 3, -1, 0))
	askApplied(t, "another's", x, 120, release(1, "other"), told(impl.AnHeld, 4, 2, 160), 10)
	askApplied(t, "another's own", x, 120, release(2, "other"), told(impl.AnOK, 10, 3, 150), 11, lock("other", 10, 3, 150))
	askApplied(t, "four wait", x, 120, release(2, "queue"), told(impl.AnOK, 10, 4, 160), 11, lock("queue", 10, 4, 160, waiter(1, 10), waiter(5, 50), waiter(6, 60)))
	askApplied(t, "four wait, time stands", x, 99, release(2, "queue"), told(impl.AnOK, 10, 4, 140), 11, lock("queue", 10, 4, 140, waiter(1, 10), waiter(5, 50), waiter(6, 60)))
	askApplied(t, "the first waits", x, 120, release(4, "queue"), told(impl.AnOK, 5, 2, 170), 10, lock("queue", 5, 2, 170, waiter(1, 10), waiter(5, 50), waiter(6, 60)))
	askApplied(t, "it waits", x, 120, release(1, "queue"), told(impl.AnOK, 5, 2, 170), 10, lock("queue", 5, 2, 170, waiter(4, 40), waiter(5, 50), waiter(6, 60)))
	askApplied(t, "the last waits", x, 120, release(6, "queue"), told(impl.AnOK, 5, 2, 170), 10, lock("queue", 5, 2, 170, waiter(4, 40), waiter(1, 10), waiter(5, 50)))
	askApplied(t, "the only one waits", x, 120, release(3, "other"), told(impl.AnOK, 4, 2, 160), 10, lock("other", 4, 2, 160))
	askApplied(t, "a stranger", x, 120, release(9, "queue"), told(impl.AnHeld, 5, 2, 170), 10)
}

func TestRenew(t *testing.T) {
	x := lockRoom()
	renew := func(client, lease int, name string) impl.Request {
		return request(client, 7, impl.LkRenew, lease, name)
	}
	askApplied(t, "none", x, 120, renew(1, 25, "none"), told(impl.AnNone, 0, -1, 0), 10)
	askApplied(t, "free", x, 120, renew(1, 25, "free"), told(impl.AnFree, 2, -1, 0), 10)
	askApplied(t, "sooner over", x, 120, renew(1, 25, "mine"), told(impl.AnOK, 3, 1, 145), 10, lock("mine", 3, 1, 145))
	askApplied(t, "later over", x, 120, renew(1, 1000, "mine"), told(impl.AnOK, 3, 1, 1120), 10, lock("mine", 3, 1, 1120))
	askApplied(t, "time stands", x, 0, renew(1, 1, "mine"), told(impl.AnOK, 3, 1, 101), 10, lock("mine", 3, 1, 101))
	askApplied(t, "another's", x, 120, renew(1, 25, "other"), told(impl.AnHeld, 4, 2, 160), 10)
	askApplied(t, "it waits", x, 120, renew(1, 25, "queue"), told(impl.AnHeld, 5, 2, 170), 10)
	askApplied(t, "others wait", x, 120, renew(2, 25, "queue"), told(impl.AnOK, 5, 2, 145), 10, lock("queue", 5, 2, 145, x.Locks[3].Waiters...))
}

func TestQuery(t *testing.T) {
	x := lockRoom()
	for _, client := range []int{1, 2, 9} {
		query := func(name string) impl.Request { return request(client, 7, impl.LkQuery, 0, name) }
		askApplied(t, "none", x, 120, query("none"), told(impl.AnNone, 0, -1, 0), 10)
		askApplied(t, "free", x, 120, query("free"), told(impl.AnFree, 2, -1, 0), 10)
		askApplied(t, "held by 1", x, 120, query("mine"), told(impl.AnHeld, 3, 1, 150), 10)
		askApplied(t, "held by 2", x, 120, query("other"), told(impl.AnHeld, 4, 2, 160), 10)
		askApplied(t, "four wait", x, 120, query("queue"), told(impl.AnHeld, 5, 2, 170), 10)
	}
}

// Time goes on ahead of what is asked.
func TestRequestsWhenALeaseIsOver(t *testing.T) {
	x := impl.Table{Time: 100, Next: 10, Locks: []impl.Lock{lock("a", 3, 1, 150), lock("b", 4, 1, 150, waiter(2, 20), waiter(3, 30))}}
	free, granted := lock("a", 3, -1, 0), lock("b", 10, 2, 170, waiter(3, 30))
	askApplied(t, "one before", x, 149, request(1, 7, impl.LkRenew, 25, "a"), told(impl.AnOK, 3, 1, 174), 10, lock("a", 3, 1, 174))
	askApplied(t, "just over", x, 150, request(1, 7, impl.LkRenew, 25, "a"), told(impl.AnFree, 3, -1, 0), 11, free, granted)
	askApplied(t, "just over", x, 150, request(1, 7, impl.LkRelease, 0, "a"), told(impl.AnFree, 3, -1, 0), 11, free, granted)
	askApplied(t, "just over", x, 150, request(1, 7, impl.LkQuery, 0, "a"), told(impl.AnFree, 3, -1, 0), 11, free, granted)
	askApplied(t, "just over", x, 150, request(1, 7, impl.LkAcquire, 5, "a"), told(impl.AnOK, 11, 1, 155), 12, lock("a", 11, 1, 155), granted)
	askApplied(t, "just over", x, 150, request(1, 7, impl.LkAcquire, 5, "b"), told(impl.AnWait, 10, 2, 170), 11, free, lock("b", 10, 2, 170, waiter(3, 30), waiter(1, 5)))
	askApplied(t, "just over", x, 150, request(1, 7, impl.LkRelease, 0, "b"), told(impl.AnHeld, 10, 2, 170), 11, free, granted)
	askApplied(t, "just over", x, 150, request(2, 7, impl.LkRelease, 0, "b"), told(impl.AnOK, 11, 3, 180), 12, free, lock("b", 11, 3, 180))
	askApplied(t, "just over", x, 150, request(2, 7, impl.LkRenew, 1, "b"), told(impl.AnOK, 10, 2, 151), 11, free, lock("b", 10, 2, 151, waiter(3, 30)))
	askApplied(t, "just over", x, 150, request(2, 7, impl.LkAcquire, 1, "b"), told(impl.AnTwice, 10, 2, 170), 11, free, granted)
	askApplied(t, "just over", x, 150, request(3, 7, impl.LkRelease, 0, "b"), told(impl.AnOK, 10, 2, 170), 11, free, lock("b", 10, 2, 170))
	askApplied(t, "just over", x, 150, request(9, 7, impl.LkQuery, 0, "c"), told(impl.AnNone, 0, -1, 0), 11, free, granted)
	full := lockRoom()
	full.Locks[3].Expiry = 110
	askApplied(t, "one waits no more", full, 110, request(9, 7, impl.LkAcquire, 5, "queue"), told(impl.AnWait, 10, 4, 150), 11, lock("queue", 10, 4, 150, waiter(1, 10), waiter(5, 50), waiter(6, 60), waiter(9, 5)))
}

// seenRoom has client 5's answer to its Stamp 40, beside a lock that is soon over.
func seenRoom(others int) impl.Table {
	x := impl.Table{Time: 100, Next: 10, Locks: []impl.Lock{lock("a", 3, 5, 150)}, Seens: []impl.Seen{seen(5, 40, told(impl.AnWait, 9, 8, 77))}}
	for i := range others {
		x.Seens = append(x.Seens, seen(6+i, 1, told(impl.AnOld, 0, -1, 0)))
	}
	return x
}

func TestStamps(t *testing.T) {
	for _, others := range []int{0, 4, 5} {
		x := seenRoom(others)
		for _, now := range []int{0, 100, 149, 150, topTime} {
			behind := copyTable(x)
			behind.Time = max(now, 100)
			query := told(impl.AnHeld, 3, 5, 150)
			if now >= 150 {
				behind.Locks[0] = lock("a", 3, -1, 0)
				query = told(impl.AnFree, 3, -1, 0)
			}
			for kind := impl.LkAcquire; kind <= impl.LkQuery; kind++ {
				lease := kind % 2
				for _, name := range []string{"a", "b"} {
					askAnswer(t, "the same", x, now, request(5, 40, kind, lease, name), told(impl.AnWait, 9, 8, 77), behind)
					for _, stamp := range []int{1, 2, 39} {
						askAnswer(t, "a lower one", x, now, request(5, stamp, kind, lease, name), told(impl.AnOld, 0, -1, 0), behind)
					}
				}
			}
			for _, stamp := range []int{41, 42, 65535} {
				askApplied(t, "a higher one", x, now, request(5, stamp, impl.LkQuery, 0, "a"), query, 10, behind.Locks[0])
			}
			for _, client := range []int{0, 4, 200, 255} {
				r := request(client, 1, impl.LkQuery, 0, "a")
				if others == 5 {
					askAnswer(t, "no room for it", x, now, r, told(impl.AnFull, 0, -1, 0), behind)
				} else {
					askApplied(t, "room for it", x, now, r, query, 10, behind.Locks[0])
				}
			}
		}
	}
}

// No room for a client is told ahead of what its request would do.
func TestSeenRoomComesFirst(t *testing.T) {
	x := seenRoom(5)
	for _, r := range []impl.Request{request(0, 1, impl.LkAcquire, 5, "b"), request(0, 9, impl.LkRelease, 0, "none"), request(0, 9, impl.LkRenew, 1, "a")} {
		behind := copyTable(x)
		behind.Time = 120
		askAnswer(t, "six Seens", x, 120, r, told(impl.AnFull, 0, -1, 0), behind)
	}
	askApplied(t, "its own Seen", x, 120, request(10, 2, impl.LkAcquire, 5, "b"), told(impl.AnOK, 10, 10, 125), 11, lock("b", 10, 10, 125))
}

// What is told again is just what was told, though time goes on and others hold the lock by then.
func TestToldAgain(t *testing.T) {
	x, a, _ := impl.ApplyRequest(emptyTable(), 5, request(1, 1, impl.LkAcquire, 10, "a"))
	first := told(impl.AnOK, 1, 1, 15)
	if a != first {
		t.Fatal(a)
	}
	x, _, _ = impl.ApplyRequest(x, 6, request(2, 1, impl.LkAcquire, 10, "a"))
	for _, now := range []int{6, 14, 15, 16, 400} {
		y, a, code := impl.ApplyRequest(x, now, request(1, 1, impl.LkAcquire, 10, "a"))
		want, _ := impl.ExpireLocks(x, now)
		askSameTable(t, fmt.Sprint("told again at ", now), y, want)
		if a != first || code != impl.OK {
			t.Errorf("told again at %d: %v %d", now, a, code)
		}
	}
}
