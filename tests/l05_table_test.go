package tests

import (
	"fmt"
	"reflect"
	"slices"
	"strings"
	"testing"

	"loop.example/g00292/impl"
)

const (
	topTime   = 1000000000
	topExpiry = 2000000000
	topNext   = 1000000
)

func told(kind, token, holder, expiry int) impl.Answer {
	return impl.Answer{Kind: kind, Token: token, Holder: holder, Expiry: expiry}
}

func waiter(client, lease int) impl.Waiter {
	return impl.Waiter{Client: client, Lease: lease}
}

func lock(name string, token, holder, expiry int, waiters ...impl.Waiter) impl.Lock {
	return impl.Lock{Name: name, Token: token, Holder: holder, Expiry: expiry, Waiters: waiters}
}

func seen(client, stamp int, a impl.Answer) impl.Seen {
	return impl.Seen{Client: client, Stamp: stamp, Answer: a}
}

// fullTable is a right table that has no room for more, with fields at their bounds; its names rise byte by byte alone.
func fullTable() impl.Table {
	return impl.Table{
		Time: 500, Next: 50,
		Locks: []impl.Lock{
			lock("Zoo", 3, 7, 600, waiter(9, 10), waiter(0, 1), waiter(255, 1000), waiter(8, 500)),
			lock("_", 0, -1, 0),
			lock("a", 49, 0, topExpiry),
			lock("a23456789012", 12, 255, 0, waiter(7, 7)),
		},
		Seens: []impl.Seen{
			seen(0, 1, told(impl.AnOK, 0, -1, 0)),
			seen(1, 65535, told(impl.AnTwice, topNext, 255, topExpiry)),
			seen(7, 256, told(impl.AnWait, 65536, 0, 1<<24)),
			seen(8, 255, told(impl.AnNone, 0, -1, 0)),
			seen(9, 2, told(impl.AnHeld, 3, 7, 600)),
			seen(255, 3, told(impl.AnFull, 255, 254, 65535)),
		},
	}
}

func emptyTable() impl.Table { return impl.Table{Next: 1} }

// someTables are right tables of many kinds.
func someTables() []impl.Table {
	few := impl.Table{Time: 7, Next: 3, Locks: []impl.Lock{lock("door", 2, 5, 9, waiter(6, 4))}, Seens: []impl.Seen{seen(5, 4, told(impl.AnOK, 2, 5, 9))}}
	return []impl.Table{
		emptyTable(), few, fullTable(),
		{Time: topTime, Next: topNext, Locks: []impl.Lock{lock("z", topNext-1, 255, topExpiry)}},
		{Next: 999000, Seens: []impl.Seen{seen(255, 65535, told(impl.AnOld, 0, -1, 0))}},
		{Time: 1, Next: 999001, Locks: []impl.Lock{lock("a", 0, -1, 0), lock("b", 999000, 1, 0, waiter(2, 2))}},
		{Time: 3, Next: 1, Locks: []impl.Lock{}, Seens: []impl.Seen{}},
	}
}

func copyTable(x impl.Table) impl.Table {
	x.Locks, x.Seens = slices.Clone(x.Locks), slices.Clone(x.Seens)
	for i := range x.Locks {
		x.Locks[i].Waiters = slices.Clone(x.Locks[i].Waiters)
	}
	return x
}

// tableText tells all of a table; nil and empty lists are told alike.
func tableText(x impl.Table) string { return fmt.Sprintf("%+v", x) }

func askSameTable(t *testing.T, what string, got, want impl.Table) {
	t.Helper()
	if tableText(got) != tableText(want) {
		t.Errorf("%s:\n%s, not\n%s", what, tableText(got), tableText(want))
	}
}

// askTable holds every function of one table to whether it is right.
func askTable(t *testing.T, what string, x impl.Table, right bool) {
	t.Helper()
	if impl.TableOK(x) != right {
		t.Errorf("TableOK, %s: %v", what, !right)
	}
	if !right {
		askBadTable(t, what, x)
		return
	}
	b, code := impl.TableBytes(x)
	askText(t, "TableBytes, "+what, string(b), code, ownTableBytes(x), impl.OK)
	back, code := impl.ReadTable(b)
	askSameTable(t, fmt.Sprint("ReadTable, ", what, " ", code), back, x)
	d, code := impl.TableDigest(x)
	askText(t, "TableDigest, "+what, d, code, sha("table", ownTableBytes(x)), impl.OK)
	if same, code := impl.SameTable(x, copyTable(x)); !same || code != impl.OK {
		t.Errorf("SameTable, %s: %v %d", what, same, code)
	}
	for _, l := range x.Locks {
		if got, code := impl.LockAt(x, l.Name); fmt.Sprint(got) != fmt.Sprint(l) || code != impl.OK {
			t.Errorf("LockAt, %s: %v %d", what, got, code)
		}
	}
}

func askBadTable(t *testing.T, what string, x impl.Table) {
	t.Helper()
	for _, now := range []int{0, topTime, -1, topTime + 1} {
		y, code := impl.ExpireLocks(x, now)
		z, a, code2 := impl.ApplyRequest(x, now, rightRequest(impl.LkQuery))
		if !reflect.DeepEqual(y, impl.Table{}) || code != impl.ErrBad || !reflect.DeepEqual(z, impl.Table{}) || a != (impl.Answer{}) || code2 != impl.ErrBad {
			t.Errorf("at %d, %s: %d %d %v %v %v", now, what, code, code2, y, z, a)
		}
	}
	if l, code := impl.LockAt(x, "a"); !reflect.DeepEqual(l, impl.Lock{}) || code != impl.ErrBad {
		t.Errorf("LockAt, %s: %v %d", what, l, code)
	}
	for _, pair := range [][2]impl.Table{{x, emptyTable()}, {emptyTable(), x}, {x, x}} {
		if same, code := impl.SameTable(pair[0], pair[1]); same || code != impl.ErrBad {
			t.Errorf("SameTable, %s: %v %d", what, same, code)
		}
	}
	if b, code := impl.TableBytes(x); b != nil || code != impl.ErrBad {
		t.Errorf("TableBytes, %s: %v %d", what, b, code)
	}
	if d, code := impl.TableDigest(x); d != "" || code != impl.ErrBad {
		t.Errorf("TableDigest, %s: %q %d", what, d, code)
	}
}

func TestLockConstants(t *testing.T) {
	got := []int{impl.MaxLocks, impl.MaxWaiters, impl.MaxClients, impl.AnOK, impl.AnWait, impl.AnNone, impl.AnFree, impl.AnHeld, impl.AnFull, impl.AnOld, impl.AnTwice}
	if !slices.Equal(got, []int{4, 4, 6, 1, 2, 3, 4, 5, 6, 7, 8}) {
		t.Error(got)
	}
}

func TestTablesThatAreRight(t *testing.T) {
	for i, x := range someTables() {
		askTable(t, fmt.Sprint("table ", i), x, true)
	}
	askTable(t, "nothing at all", impl.Table{}, false)
}

// tableField is a number of a table, with what it may be while all else is right.
type tableField struct {
	name        string
	base        impl.Table
	at          func(x *impl.Table) *int
	least, most int
}

func tableFields() []tableField {
	free := impl.Table{Time: 5, Next: 50, Locks: []impl.Lock{lock("a", 1, -1, 0)}}
	low, high := emptyTable(), impl.Table{Next: topNext}
	low.Locks, high.Locks = []impl.Lock{lock("a", 0, 3, 4)}, []impl.Lock{lock("a", 0, 3, 4)}
	fields := []tableField{
		{"Time", fullTable(), func(x *impl.Table) *int { return &x.Time }, 0, topTime},
		{"Next", emptyTable(), func(x *impl.Table) *int { return &x.Next }, 1, topNext},
		{"Next above Tokens", fullTable(), func(x *impl.Table) *int { return &x.Next }, 50, topNext},
		{"Token below Next", fullTable(), func(x *impl.Table) *int { return &x.Locks[0].Token }, 0, 49},
		{"Token below the least Next", low, func(x *impl.Table) *int { return &x.Locks[0].Token }, 0, 0},
		{"Token below the greatest Next", high, func(x *impl.Table) *int { return &x.Locks[0].Token }, 0, topNext - 1},
		{"Token of a free lock", fullTable(), func(x *impl.Table) *int { return &x.Locks[1].Token }, 0, 49},
		{"Holder with an Expiry", fullTable(), func(x *impl.Table) *int { return &x.Locks[2].Holder }, 0, 255},
		{"Holder with a Waiter", fullTable(), func(x *impl.Table) *int { return &x.Locks[3].Holder }, 8, 255},
		{"Holder or nobody", free, func(x *impl.Table) *int { return &x.Locks[0].Holder }, -1, 255},
		{"Expiry", fullTable(), func(x *impl.Table) *int { return &x.Locks[0].Expiry }, 0, topExpiry},
		{"Expiry of a free lock", fullTable(), func(x *impl.Table) *int { return &x.Locks[1].Expiry }, 0, 0},
		{"a first Seen's Client", fullTable(), func(x *impl.Table) *int { return &x.Seens[0].Client }, 0, 0},
		{"a middle Seen's Client", fullTable(), func(x *impl.Table) *int { return &x.Seens[2].Client }, 2, 7},
		{"a last Seen's Client", fullTable(), func(x *impl.Table) *int { return &x.Seens[5].Client }, 10, 255},
	}
	for i := range 4 {
		fields = append(fields, tableField{"Lease", fullTable(), func(x *impl.Table) *int { return &x.Locks[0].Waiters[i].Lease }, 1, 1000})
	}
	for i := range 6 {
		fields = append(fields,
			tableField{"Stamp", fullTable(), func(x *impl.Table) *int { return &x.Seens[i].Stamp }, 1, 65535},
			tableField{"an answer's Kind", fullTable(), func(x *impl.Table) *int { return &x.Seens[i].Answer.Kind }, 1, 8},
			tableField{"an answer's Token", fullTable(), func(x *impl.Table) *int { return &x.Seens[i].Answer.Token }, 0, topNext},
			tableField{"an answer's Holder", fullTable(), func(x *impl.Table) *int { return &x.Seens[i].Answer.Holder }, -1, 255},
			tableField{"an answer's Expiry", fullTable(), func(x *impl.Table) *int { return &x.Seens[i].Answer.Expiry }, 0, topExpiry},
		)
	}
	return fields
}

func TestTableNumbers(t *testing.T) {
	for _, field := range tableFields() {
		for _, value := range append(edges(field.least, field.most), 1<<24-1, 1<<24, 1<<32+field.least, 1<<16+field.least) {
			// The Waiter 7 of the last lock and the Holder are told apart elsewhere.
			if field.name == "Holder with a Waiter" && value >= 0 && value < 8 {
				continue
			}
			x := copyTable(field.base)
			*field.at(&x) = value
			askTable(t, fmt.Sprint(field.name, " ", value), x, value >= field.least && value <= field.most)
		}
	}
}

func TestWaitersOfATable(t *testing.T) {
	for i := range 4 {
		for client := -3; client <= 260; client++ {
			x := fullTable()
			others := []int{7, 9, 0, 255, 8}
			others[i+1] = -1
			x.Locks[0].Waiters[i].Client = client
			askTable(t, fmt.Sprint("waiter ", i, " is ", client), x, client >= 0 && client <= 255 && !slices.Contains(others, client))
		}
		for _, client := range oddInts() {
			x := fullTable()
			x.Locks[0].Waiters[i] = waiter(client, 10)
			askTable(t, fmt.Sprint("waiter ", i, " is ", client), x, client == 1 || client >= 19 && client <= 21 || client == []int{300, 0, 255, 300}[i])
		}
	}
	for client := range 256 {
		x := fullTable()
		x.Locks[0].Holder = client
		askTable(t, fmt.Sprint("holder ", client), x, !slices.Contains([]int{9, 0, 255, 8}, client))
	}
	for _, lease := range []int{7, 8} {
		x := fullTable()
		x.Locks[3].Waiters = []impl.Waiter{waiter(7, 7), waiter(7, lease)}
		askTable(t, fmt.Sprint("one that waits twice, for ", lease), x, false)
	}
	x := fullTable()
	x.Locks[1].Waiters = []impl.Waiter{waiter(7, 7)}
	askTable(t, "one that waits for nobody", x, false)
	x.Locks[1].Waiters = []impl.Waiter{}
	askTable(t, "an empty list that waits for nobody", x, true)
}

func manyLocks(count int) []impl.Lock {
	var list []impl.Lock
	for i := range count {
		list = append(list, lock(fmt.Sprintf("n%05d", i), 0, -1, 0))
	}
	return list
}

func manySeens(count int) []impl.Seen {
	var list []impl.Seen
	for i := range count {
		list = append(list, seen(i, 1, told(impl.AnOld, 0, -1, 0)))
	}
	return list
}

func TestTableCounts(t *testing.T) {
	for _, count := range []int{0, 1, 2, 3, 4, 5, 6, 7, 8, 100, 255, 256, 257, impl.MaxList + 1} {
		askTable(t, fmt.Sprint(count, " locks"), impl.Table{Next: 1, Locks: manyLocks(count)}, count <= 4)
		askTable(t, fmt.Sprint(count, " Seens"), impl.Table{Next: 1, Seens: manySeens(count)}, count <= 6)
		held := lock("a", 0, 0, 9)
		for i := range count {
			held.Waiters = append(held.Waiters, waiter(i+1, 1))
		}
		askTable(t, fmt.Sprint(count, " Waiters"), impl.Table{Next: 1, Locks: []impl.Lock{held}}, count <= 4)
	}
}

func TestTableLists(t *testing.T) {
	for i := range 4 {
		for j := range 4 {
			x := fullTable()
			x.Locks[i], x.Locks[j] = x.Locks[j], x.Locks[i]
			askTable(t, fmt.Sprint("locks ", i, " and ", j, " change places"), x, i == j)
			x = fullTable()
			x.Locks[i].Name = x.Locks[j].Name
			askTable(t, fmt.Sprint("locks ", i, " and ", j, " have one name"), x, i == j)
		}
	}
	for i := range 6 {
		for j := range 6 {
			x := fullTable()
			x.Seens[i], x.Seens[j] = x.Seens[j], x.Seens[i]
			askTable(t, fmt.Sprint("Seens ", i, " and ", j, " change places"), x, i == j)
			x = fullTable()
			x.Seens[i].Client = x.Seens[j].Client
			askTable(t, fmt.Sprint("Seens ", i, " and ", j, " have one client"), x, i == j)
		}
	}
}

func TestTableNames(t *testing.T) {
	names := append(oddTexts(), "A", "z", "Zz9_", "9a", "a-b", "a b", " a", "a ", "a\x00", "a2345678901", "a23456789012", "a234567890123", "b\u00e9", strings.Repeat("a", 1000000))
	for _, name := range names {
		askTable(t, fmt.Sprintf("%.20q of %d bytes", name, len(name)), impl.Table{Next: 1, Locks: []impl.Lock{lock(name, 0, -1, 0)}}, isOpName(name))
	}
	rising := []string{"A", "B", "Z", "Za", "_", "_0", "_A", "_a", "a", "a0", "a00", "aA", "a_", "aa", "b"}
	for i, first := range rising {
		for j, second := range rising {
			askTable(t, first+" ahead of "+second, impl.Table{Next: 1, Locks: []impl.Lock{lock(first, 0, -1, 0), lock(second, 0, -1, 0)}}, i < j)
		}
	}
}

// wrongTables are tables with one fault each.
func wrongTables() []impl.Table {
	var list []impl.Table
	for _, change := range []func(x *impl.Table){
		func(x *impl.Table) { x.Time = -1 },
		func(x *impl.Table) { x.Next = 0 },
		func(x *impl.Table) { x.Locks[2].Token = x.Next },
		func(x *impl.Table) { x.Locks[1].Expiry = 1 },
		func(x *impl.Table) { x.Locks[0].Waiters[3].Client = 7 },
		func(x *impl.Table) { x.Locks = append(x.Locks, lock("b", 0, -1, 0)) },
		func(x *impl.Table) { x.Seens = manySeens(7) },
		func(x *impl.Table) { x.Seens[5].Answer.Kind = 9 },
	} {
		x := fullTable()
		change(&x)
		list = append(list, x)
	}
	return append(list, impl.Table{})
}

func TestSameTable(t *testing.T) {
	for i, x := range someTables() {
		for j, y := range someTables() {
			if same, code := impl.SameTable(x, y); same != (i == j) || code != impl.OK {
				t.Errorf("SameTable %d %d: %v %d", i, j, same, code)
			}
			for _, bad := range wrongTables() {
				askBadTable(t, "one fault", bad)
				if same, code := impl.SameTable(x, bad); same || code != impl.ErrBad {
					t.Errorf("SameTable %d and a wrong one: %v %d", i, same, code)
				}
				if same, code := impl.SameTable(bad, x); same || code != impl.ErrBad {
					t.Errorf("SameTable of a wrong one and %d: %v %d", i, same, code)
				}
			}
		}
	}
	empty := impl.Table{Next: 1, Locks: []impl.Lock{}, Seens: make([]impl.Seen, 0, 9)}
	held, other := impl.Table{Next: 2, Locks: []impl.Lock{lock("a", 1, 1, 1)}}, impl.Table{Next: 2, Locks: []impl.Lock{lock("a", 1, 1, 1)}}
	held.Locks[0].Waiters, other.Locks[0].Waiters = nil, []impl.Waiter{}
	for _, pair := range [][2]impl.Table{{emptyTable(), empty}, {empty, emptyTable()}, {held, other}, {other, held}} {
		if same, code := impl.SameTable(pair[0], pair[1]); !same || code != impl.OK {
			t.Errorf("SameTable of nil and empty lists: %v %d", same, code)
		}
	}
}

func TestTablesThatDifferInOneField(t *testing.T) {
	changes := []func(x *impl.Table){
		func(x *impl.Table) { x.Time++ },
		func(x *impl.Table) { x.Next++ },
		func(x *impl.Table) { x.Locks[0].Name = "Zo" },
		func(x *impl.Table) { x.Locks[3].Name = "a23456789013" },
		func(x *impl.Table) { x.Locks[0].Token-- },
		func(x *impl.Table) { x.Locks[1].Token++ },
		func(x *impl.Table) { x.Locks[0].Holder = 6 },
		func(x *impl.Table) { x.Locks[3].Holder = 254 },
		func(x *impl.Table) { x.Locks[3].Holder, x.Locks[3].Waiters = 254, nil },
		func(x *impl.Table) { x.Locks[0].Expiry++ },
		func(x *impl.Table) { x.Locks[2].Expiry-- },
		func(x *impl.Table) { x.Locks[1].Holder = 0 },
		func(x *impl.Table) { x.Locks[0].Waiters = x.Locks[0].Waiters[:3] },
		func(x *impl.Table) { x.Locks[0].Waiters = x.Locks[0].Waiters[1:] },
		func(x *impl.Table) { x.Locks[2].Waiters = []impl.Waiter{waiter(1, 1)} },
		func(x *impl.Table) { slices.Reverse(x.Locks[0].Waiters) },
		func(x *impl.Table) { x.Locks[0].Waiters[0].Client = 10 },
		func(x *impl.Table) { x.Locks[0].Waiters[3].Lease++ },
		func(x *impl.Table) { x.Locks = x.Locks[:3] },
		func(x *impl.Table) { x.Locks = x.Locks[1:] },
		func(x *impl.Table) { x.Locks = nil },
		func(x *impl.Table) { x.Seens = x.Seens[:5] },
		func(x *impl.Table) { x.Seens = nil },
		func(x *impl.Table) { x.Seens[5].Client-- },
		func(x *impl.Table) { x.Seens[0].Stamp++ },
		func(x *impl.Table) { x.Seens[0].Answer.Kind++ },
		func(x *impl.Table) { x.Seens[5].Answer.Token-- },
		func(x *impl.Table) { x.Seens[0].Answer.Holder++ },
		func(x *impl.Table) { x.Seens[5].Answer.Expiry-- },
	}
	digests := map[string]int{}
	for i, change := range changes {
		x := fullTable()
		change(&x)
		askTable(t, fmt.Sprint("change ", i), x, true)
		for _, pair := range [][2]impl.Table{{x, fullTable()}, {fullTable(), x}} {
			if same, code := impl.SameTable(pair[0], pair[1]); same || code != impl.OK {
				t.Errorf("SameTable, change %d: %v %d", i, same, code)
			}
		}
		d, _ := impl.TableDigest(x)
		digests[d]++
	}
	if len(digests) != len(changes) {
		t.Errorf("%d digests of %d tables", len(digests), len(changes))
	}
}

func TestLockAt(t *testing.T) {
	x := fullTable()
	names := append(oddTexts(), "Zo", "Zoo", "Zoo0", "zoo", "__", "a", "A", "a2", "a23456789012", "a2345678901", "a234567890123")
	for _, name := range names {
		want, code := impl.Lock{}, impl.ErrNone
		if len(name) > impl.MaxText {
			code = impl.ErrLong
		}
		for _, l := range fullTable().Locks {
			if l.Name == name {
				want, code = l, impl.OK
			}
		}
		got, gotCode := impl.LockAt(x, name)
		if fmt.Sprint(got) != fmt.Sprint(want) || gotCode != code {
			t.Errorf("LockAt %.20q: %v %d", name, got, gotCode)
		}
		if code != impl.ErrLong {
			code = impl.ErrNone
		}
		if got, gotCode := impl.LockAt(emptyTable(), name); !reflect.DeepEqual(got, impl.Lock{}) || gotCode != code {
			t.Errorf("LockAt %.20q of nothing: %v %d", name, got, gotCode)
		}
	}
	for _, bad := range wrongTables() {
		for name, want := range map[string]int{"Zoo": impl.ErrBad, "none": impl.ErrBad, "": impl.ErrBad, longText(): impl.ErrLong} {
			if l, code := impl.LockAt(bad, name); !reflect.DeepEqual(l, impl.Lock{}) || code != want {
				t.Errorf("LockAt %.20q of a wrong table: %v %d", name, l, code)
			}
		}
	}
}
