package lease

import (
	"cmp"
	"math"
	"slices"
	"testing"

	"copybook/api"
)

// last is the latest tick until which a lease may be.
const last = api.MaxTime + api.Lease

// clients are some, at both ends and on both sides of where a signed number would be below 0.
func clients() []uint32 {
	return []uint32{0, 1, 2, 15, 16, 17, 255, 256, 1<<31 - 1, 1 << 31, 1<<31 + 1, math.MaxUint32 - 1, math.MaxUint32}
}

// clientAt is one of many clients; they do not rise as the numbers do.
func clientAt(n int) uint32 { return uint32(n) * 0x9e3779b1 }

// many are leases of so many clients, each with an end of its own.
func many(n int) []Lease {
	var out []Lease
	for i := range n {
		out = append(out, Lease{clientAt(i), uint64(100 + i)})
	}
	return out
}

// rising is a list in the order in which it is to be told.
func rising(list []Lease) []Lease {
	out := slices.Clone(list)
	slices.SortFunc(out, func(a, b Lease) int { return cmp.Compare(a.Client, b.Client) })
	return out
}

// told are the clients of a list.
func told(list []Lease) []uint32 {
	var out []uint32
	for _, one := range list {
		out = append(out, one.Client)
	}
	return out
}

// parted are those of a list who are there at a tick, and those who are not.
func parted(list []Lease, now uint64) (there, not []Lease) {
	for _, one := range list {
		if now < one.Until {
			there = append(there, one)
		} else {
			not = append(not, one)
		}
	}
	return there, not
}

// ticks are those on both sides of each end of a list, and those on both sides of what may be.
func ticks(list []Lease) []uint64 {
	out := []uint64{0, 1, 63, 64, 65, api.MaxTime - 1, api.MaxTime, api.MaxTime + 1, last - 1, last, last + 1, 1<<63 - 1, 1 << 63, math.MaxUint64 - 64, math.MaxUint64 - 63, math.MaxUint64}
	for _, one := range list {
		out = append(out, one.Until-1, one.Until, one.Until+1) // of 0 also the greatest tick
	}
	return out
}

// made are leases of New.
func made(t *testing.T, list ...Lease) *Leases {
	t.Helper()
	x, e := New(list...)
	if e != api.OK || x == nil {
		t.Fatalf("New(%v): got %v, error %d", list, x, e)
	}
	return x
}

func wantNew(t *testing.T, want api.Errno, list ...Lease) {
	t.Helper()
	if x, e := New(list...); x != nil || e != want {
		t.Errorf("New(%v): got %v, error %d, want none, error %d", list, x, e, want)
	}
}

func wantSet(t *testing.T, x *Leases, client uint32, now uint64, want api.Errno) {
	t.Helper()
	if e := x.Set(client, now); e != want {
		t.Errorf("Set(%d, %d): got error %d, want %d", client, now, e, want)
	}
}

func wantDrop(t *testing.T, x *Leases, client uint32, want api.Errno) {
	t.Helper()
	if e := x.Drop(client); e != want {
		t.Errorf("Drop(%d): got error %d, want %d", client, e, want)
	}
}

func wantLive(t *testing.T, x *Leases, client uint32, now uint64, want bool) {
	t.Helper()
	if got := x.Live(client, now); got != want {
		t.Errorf("Live(%d, %d): got %v, want %v", client, now, got, want)
	}
}

func wantThere(t *testing.T, x *Leases, now uint64, want ...uint32) {
	t.Helper()
	if got := x.There(now); !slices.Equal(got, want) {
		t.Errorf("There(%d): got %v, want %v", now, got, want)
	}
}

func wantExpire(t *testing.T, x *Leases, now uint64, want ...uint32) {
	t.Helper()
	if got := x.Expire(now); !slices.Equal(got, want) {
		t.Errorf("Expire(%d): got %v, want %v", now, got, want)
	}
}

// wantAll asks all that leases tell: they are just these, which rise by clients.
func wantAll(t *testing.T, x *Leases, list ...Lease) {
	t.Helper()
	if got := x.All(); !slices.Equal(got, list) {
		t.Errorf("All: got %v, want %v", got, list)
	}
	for _, now := range ticks(list) {
		there, not := parted(list, now)
		wantThere(t, x, now, told(there)...)
		for _, one := range there {
			wantLive(t, x, one.Client, now, true)
		}
		for _, one := range not {
			wantLive(t, x, one.Client, now, false)
		}
		for _, client := range clients() {
			if !slices.Contains(told(list), client) {
				wantLive(t, x, client, now, false)
			}
		}
	}
}

// P12.1 to P12.3: the chapter's examples.
func TestExamples(t *testing.T) {
	x := made(t)
	wantSet(t, x, 3, 10, api.OK)
	wantLive(t, x, 3, 73, true)
	wantLive(t, x, 3, 74, false)
	wantSet(t, x, 3, 5, api.OK)
	wantLive(t, x, 3, 73, true)
	wantSet(t, x, 1, 20, api.OK)
	wantThere(t, x, 74, 1)
	wantExpire(t, x, 74, 3)
	wantAll(t, x, Lease{1, 84})
}

// P12.1: New of no lease, of one, and of some, with ends on both sides of each limit up to the latest one.
func TestNew(t *testing.T) {
	wantAll(t, made(t))
	wantAll(t, made(t, []Lease{}...))
	ends := []uint64{0, 1, 63, 64, 65, 1<<32 - 1, 1 << 32, api.MaxTime - 1, api.MaxTime, api.MaxTime + 1, last - 1, last}
	var all []Lease
	for i, until := range ends {
		for _, client := range clients() {
			wantAll(t, made(t, Lease{client, until}), Lease{client, until})
		}
		all = append(all, Lease{uint32(i * i), until})
		wantAll(t, made(t, all...), all...)
	}
}

// P12.1: an Until above the latest one, of the first lease and of a later one.
func TestNewTooLate(t *testing.T) {
	for _, until := range []uint64{last + 1, last + 2, 2 * last, 1 << 41, 1<<63 - 1, 1 << 63, 1<<63 + 1, math.MaxUint64 - 64, math.MaxUint64} {
		for _, client := range clients() {
			wantNew(t, api.ErrArg, Lease{client, until})
		}
		list := many(api.MaxClients)
		for i := range list {
			one := slices.Clone(list)
			one[i].Until = until
			wantNew(t, api.ErrArg, one...)
			one[i].Until = last
			wantAll(t, made(t, one...), rising(one)...)
		}
	}
}

// P12.1: a client twice, side by side and apart, with one end and with two, of 0 too.
func TestNewTwice(t *testing.T) {
	for _, client := range clients() {
		for _, ends := range [][2]uint64{{0, 0}, {0, 1}, {1, 0}, {5, 5}, {5, 6}, {6, 5}, {last, last}, {0, last}} {
			a, b := Lease{client, ends[0]}, Lease{client, ends[1]}
			wantNew(t, api.ErrArg, a, b)
			wantNew(t, api.ErrArg, a, Lease{client + 1, 5}, b)
			wantNew(t, api.ErrArg, Lease{client - 1, 5}, a, Lease{client + 1, 5}, b)
			wantNew(t, api.ErrArg, Lease{client - 1, 5}, a, b, Lease{client + 1, 5})
			wantNew(t, api.ErrArg, a, b, a)
		}
	}
	list := many(api.MaxClients)
	for i := range list {
		for j := range i {
			one := slices.Clone(list)
			one[i].Client = one[j].Client
			wantNew(t, api.ErrArg, one...)
		}
	}
}

// P12.1: as many leases as may be, and more.
func TestNewFull(t *testing.T) {
	for n := range api.MaxClients + 1 {
		list := many(n)
		wantAll(t, made(t, list...), rising(list)...)
	}
	for _, n := range []int{api.MaxClients + 1, api.MaxClients + 2, 2 * api.MaxClients, 255, 256, 257, 70000} {
		wantNew(t, api.ErrFull, many(n)...)
	}
	// Also of leases at whose end no tick is.
	over := slices.Repeat([]Lease{{}}, api.MaxClients+1)
	for i := range over {
		over[i].Client = uint32(i)
	}
	wantNew(t, api.ErrFull, over...)
	wantAll(t, made(t, over[1:]...), over[1:]...)
}

// P12.1: what may not be is told ahead of too many, wherever it stands.
func TestNewErrorsOrder(t *testing.T) {
	for _, n := range []int{api.MaxClients + 1, api.MaxClients + 2, 100} {
		list := many(n)
		for i := range list {
			late, twice := slices.Clone(list), slices.Clone(list)
			late[i].Until = last + 1
			wantNew(t, api.ErrArg, late...)
			twice[i].Client = twice[(i+1)%n].Client
			wantNew(t, api.ErrArg, twice...)
			wantNew(t, api.ErrArg, append(slices.Clone(list), list[i])...)
		}
	}
	// As many clients as may be, but more leases.
	list := many(api.MaxClients)
	wantNew(t, api.ErrArg, append(slices.Clone(list), list[0])...)
	wantNew(t, api.ErrArg, slices.Repeat([]Lease{{7, 7}}, 20)...)
}

// orders calls f with each order of a list.
func orders(list []Lease, f func([]Lease)) {
	var from func(n int)
	from = func(n int) {
		if n == len(list) {
			f(slices.Clone(list))
		}
		for i := n; i < len(list); i++ {
			list[n], list[i] = list[i], list[n]
			from(n + 1)
			list[n], list[i] = list[i], list[n]
		}
	}
	from(0)
}

// P12.1, P12.3: All, There and Expire tell clients rising, in whatever order the leases were given or set.
func TestRises(t *testing.T) {
	all := []Lease{{0, 74}, {1, 67}, {2, 72}, {1<<31 - 1, 75}, {1 << 31, 66}, {math.MaxUint32, 70}}
	orders(slices.Clone(all), func(order []Lease) {
		given, set := made(t, order...), made(t)
		for _, one := range order {
			wantSet(t, set, one.Client, one.Until-api.Lease, api.OK)
		}
		for _, x := range []*Leases{given, set} {
			wantAll(t, x, all...)
			wantThere(t, x, 70, 0, 2, 1<<31-1)
			wantExpire(t, x, 70, 1, 1<<31, math.MaxUint32)
			wantAll(t, x, all[0], all[2], all[3])
			wantExpire(t, x, 100, 0, 2, 1<<31-1)
			wantAll(t, x)
		}
	})
	// Also where clients were dropped and set again.
	orders(slices.Clone(all[:4]), func(order []Lease) {
		x := made(t, order...)
		for _, one := range order[1:3] {
			wantDrop(t, x, one.Client, api.OK)
		}
		for _, one := range order[1:3] {
			wantSet(t, x, one.Client, one.Until-api.Lease, api.OK)
		}
		wantAll(t, x, all[:4]...)
	})
}

// P12.1 to P12.3: no leases, and ones that New did not make, whatever is asked, and in whatever order.
func TestNone(t *testing.T) {
	var value Leases
	over := made(t, Lease{1, 50})
	*over = Leases{}
	for _, x := range []*Leases{nil, {}, new(Leases), &value, over} {
		for range 2 {
			wantAll(t, x)
			for _, client := range clients() {
				for _, now := range ticks(nil) {
					wantSet(t, x, client, now, api.ErrNil)
				}
				wantDrop(t, x, client, api.ErrNil)
			}
			for _, now := range ticks(nil) {
				wantExpire(t, x, now)
			}
			if c := x.Copy(); c != nil {
				t.Errorf("Copy: got %v, want none", c)
			}
		}
	}
}

// P12.2: Set of a client that has no lease, at ticks up to the latest one, at it and above it.
func TestSet(t *testing.T) {
	for _, client := range clients() {
		for _, now := range []uint64{0, 1, 5, 63, 64, 65, 1<<32 - 65, 1<<32 - 64, 1 << 32, api.MaxTime - 64, api.MaxTime - 1, api.MaxTime} {
			x := made(t)
			wantSet(t, x, client, now, api.OK)
			wantAll(t, x, Lease{client, now + 64})
			wantLive(t, x, client, now+63, true)
			wantLive(t, x, client, now+64, false)
		}
		x := made(t)
		for _, now := range tooLate() {
			wantSet(t, x, client, now, api.ErrArg)
			wantAll(t, x)
		}
	}
}

func tooLate() []uint64 {
	return []uint64{api.MaxTime + 1, api.MaxTime + 2, last, last + 1, 1 << 41, 1<<63 - 1, 1 << 63, math.MaxUint64 - 65, math.MaxUint64 - 64, math.MaxUint64 - 63, math.MaxUint64}
}

// P12.2: Set of a client that has a lease: the later end of the two counts.
func TestSetAgain(t *testing.T) {
	for _, until := range []uint64{0, 1, 63, 64, 65, 100, 128, 1 << 32, api.MaxTime, api.MaxTime + 63, last} {
		for _, client := range clients() {
			for _, now := range []uint64{0, 1, 2, 35, 36, 37, 63, 64, 65, 1<<32 - 65, 1<<32 - 64, 1<<32 - 63, api.MaxTime - 65, api.MaxTime - 64, api.MaxTime - 63, api.MaxTime - 1, api.MaxTime} {
				x := made(t, Lease{client, until})
				want := Lease{client, max(until, now+64)}
				for range 2 {
					wantSet(t, x, client, now, api.OK)
					wantAll(t, x, want)
				}
			}
			x := made(t, Lease{client, until})
			for _, now := range tooLate() {
				wantSet(t, x, client, now, api.ErrArg)
				wantAll(t, x, Lease{client, until})
			}
		}
	}
}

// P12.2: a client's lease is its own: no other one is set with it.
func TestSetOthers(t *testing.T) {
	x := made(t, Lease{7, 50}, Lease{3, 50}, Lease{math.MaxUint32, 80}, Lease{0, 0})
	wantSet(t, x, 3, 10, api.OK)
	wantAll(t, x, Lease{0, 0}, Lease{3, 74}, Lease{7, 50}, Lease{math.MaxUint32, 80})
	wantSet(t, x, 0, 100, api.OK)
	wantSet(t, x, 7, 0, api.OK)
	wantSet(t, x, 8, 1, api.OK)
	wantSet(t, x, math.MaxUint32, 15, api.OK)
	wantAll(t, x, Lease{0, 164}, Lease{3, 74}, Lease{7, 64}, Lease{8, 65}, Lease{math.MaxUint32, 80})
}

// P12.2: the sixteenth client and the seventeenth; who has a lease sets it also where there is no room.
func TestSetFull(t *testing.T) {
	list := many(api.MaxClients)
	x := made(t, list[:api.MaxClients-1]...)
	wantSet(t, x, list[15].Client, list[15].Until-api.Lease, api.OK)
	all := rising(list)
	wantAll(t, x, all...)
	for _, now := range []uint64{0, 1, 51, 100, api.MaxTime} {
		for _, client := range clients()[1:] {
			wantSet(t, x, client, now, api.ErrFull)
			wantAll(t, x, all...)
		}
	}
	for i := range all {
		wantSet(t, x, all[i].Client, 200, api.OK)
		all[i].Until = 264
		wantAll(t, x, all...)
	}
	wantSet(t, x, 5, 0, api.ErrFull)
}

// P12.2: one that has a lease takes room also where it is there no more, till it is gone.
func TestSetFullOfThoseWhoLeft(t *testing.T) {
	list := many(api.MaxClients)
	x := made(t, list...)
	wantThere(t, x, 1000)
	wantSet(t, x, 5, 1000, api.ErrFull)
	wantAll(t, x, rising(list)...)
	wantExpire(t, x, 101, list[0].Client, list[1].Client)
	wantSet(t, x, 5, 1000, api.OK)
	wantSet(t, x, 6, 1000, api.OK)
	wantSet(t, x, 7, 1000, api.ErrFull)
	wantDrop(t, x, list[9].Client, api.OK)
	wantSet(t, x, list[9].Client, 2000, api.OK)
	wantSet(t, x, 7, 1000, api.ErrFull)
	wantDrop(t, x, 6, api.OK)
	wantSet(t, x, 7, 1000, api.OK)
	wantSet(t, x, 6, 1000, api.ErrFull)
	left := slices.DeleteFunc(list[2:], func(one Lease) bool { return one.Client == clientAt(9) })
	wantAll(t, x, rising(append(left, Lease{5, 1064}, Lease{7, 1064}, Lease{clientAt(9), 2064}))...)
	for n := range api.MaxClients {
		full := many(api.MaxClients)
		full[n].Until = 0
		x := made(t, full...)
		wantSet(t, x, 5, 0, api.ErrFull)
		// A lease that was never one of any tick is a lease too.
		wantSet(t, x, full[n].Client, 1, api.OK)
		full[n].Until = 65
		wantAll(t, x, rising(full)...)
	}
}

// P12.2: a tick that may not be is told ahead of no room.
func TestSetErrorsOrder(t *testing.T) {
	list := many(api.MaxClients)
	x := made(t, list...)
	for _, now := range tooLate() {
		wantSet(t, x, 5, now, api.ErrArg)
		wantSet(t, x, list[3].Client, now, api.ErrArg)
	}
	wantSet(t, x, 5, api.MaxTime, api.ErrFull)
	wantAll(t, x, rising(list)...)
}

// P12.2: Drop of a client that has a lease, of one that has none, and again; no other one goes with it.
func TestDrop(t *testing.T) {
	all := []Lease{{0, 3}, {1, 0}, {2, 100}, {17, 100}, {1 << 31, last}, {math.MaxUint32, 64}}
	for i, one := range all {
		x := made(t, all...)
		rest := slices.Concat(all[:i], all[i+1:])
		wantDrop(t, x, 16, api.ErrNone)
		wantAll(t, x, all...)
		wantDrop(t, x, one.Client, api.OK)
		wantAll(t, x, rest...)
		wantDrop(t, x, one.Client, api.ErrNone)
		wantDrop(t, x, one.Client, api.ErrNone)
		wantAll(t, x, rest...)
		// Nothing is left of the end that it had.
		wantSet(t, x, one.Client, 0, api.OK)
		wantAll(t, x, rising(append(rest, Lease{one.Client, 64}))...)
		wantDrop(t, x, one.Client, api.OK)
		wantDrop(t, x, one.Client, api.ErrNone)
	}
	x := made(t, all...)
	for i, one := range all {
		wantDrop(t, x, one.Client, api.OK)
		wantAll(t, x, all[i+1:]...)
	}
	for _, client := range clients() {
		wantDrop(t, x, client, api.ErrNone)
		wantDrop(t, made(t), client, api.ErrNone)
	}
	wantExpire(t, x, math.MaxUint64)
	wantSet(t, x, 9, 2, api.OK)
	wantAll(t, x, Lease{9, 66})
}

// P12.2, P12.3: Drop of one that went with Expire, and of one that is there no more but was not told to go.
func TestDropThoseWhoLeft(t *testing.T) {
	x := made(t, Lease{1, 50}, Lease{2, 60})
	wantExpire(t, x, 50, 1)
	wantDrop(t, x, 1, api.ErrNone)
	wantLive(t, x, 2, 60, false)
	wantDrop(t, x, 2, api.OK)
	wantExpire(t, x, 60)
	wantAll(t, x)
}

// P12.3: Live, There and Expire below the end, at it, and above it.
func TestEnds(t *testing.T) {
	for _, until := range []uint64{0, 1, 2, 63, 64, 65, 1<<32 - 1, 1 << 32, api.MaxTime, last - 1, last} {
		for _, now := range ticks([]Lease{{5, until}}) {
			x := made(t, Lease{5, until})
			there := now < until
			wantLive(t, x, 5, now, there)
			if there {
				wantThere(t, x, now, 5)
				wantExpire(t, x, now)
				wantAll(t, x, Lease{5, until})
			} else {
				wantThere(t, x, now)
				wantExpire(t, x, now, 5)
				wantAll(t, x)
			}
			wantExpire(t, x, now)
		}
	}
}

// P12.3: only who has a lease is there, or goes: no other client is, at any tick.
func TestOthersAreNotThere(t *testing.T) {
	for _, client := range clients() {
		x := made(t, Lease{client, 50})
		for _, other := range clients() {
			wantLive(t, x, other, 49, other == client)
			wantLive(t, x, other, 0, other == client)
			wantLive(t, x, other, 50, false)
		}
		wantThere(t, x, 49, client)
		wantExpire(t, x, 49)
		wantExpire(t, x, 50, client)
	}
}

// P12.3: who goes with Expire, and who is left, one tick at a time and at once.
func TestExpire(t *testing.T) {
	list := many(api.MaxClients)
	all := rising(list)
	step := made(t, list...)
	for now := range uint64(100 + api.MaxClients + 2) {
		there, not := parted(all, now)
		x := made(t, list...)
		wantExpire(t, x, now, told(not)...)
		wantAll(t, x, there...)
		var gone []uint32
		if now >= 100 && now < 100+api.MaxClients {
			gone = []uint32{clientAt(int(now - 100))}
		}
		wantExpire(t, step, now, gone...)
		wantAll(t, step, there...)
	}
	// Several at one tick.
	x := made(t, Lease{9, 50}, Lease{4, 50}, Lease{6, 51}, Lease{5, 0}, Lease{2, 50})
	wantExpire(t, x, 0, 5)
	wantExpire(t, x, 49)
	wantExpire(t, x, 50, 2, 4, 9)
	wantAll(t, x, Lease{6, 51})
	// Who went has no end any more that a later Set could go by.
	wantSet(t, x, 9, 0, api.OK)
	wantAll(t, x, Lease{6, 51}, Lease{9, 64})
}

// P12.3: asking changes nothing, whoever is there.
func TestAskingChangesNothing(t *testing.T) {
	list := many(api.MaxClients)
	x := made(t, list...)
	for _, now := range []uint64{math.MaxUint64, 0, 200, 108, 100} {
		for range 2 {
			x.Live(list[3].Client, now)
			x.Live(77, now)
			x.There(now)
			x.All()
			x.Copy()
		}
		wantAll(t, x, rising(list)...)
	}
	wantExpire(t, x, math.MaxUint64, told(rising(list))...)
}

// P12.4: a client that sets its lease again less than Lease ticks behind the time ahead is there at each tick; behind the last one as long as its lease is.
func TestAgainAndAgain(t *testing.T) {
	for _, gap := range []uint64{1, 2, 31, 32, 33, 62, 63, 64, 65, 100} {
		x := made(t, Lease{9, last})
		now := uint64(0)
		for range 20 {
			wantSet(t, x, 3, now, api.OK)
			for tick := now; tick <= now+gap; tick++ {
				wantLive(t, x, 3, tick, tick < now+64)
				if tick < now+64 {
					wantExpire(t, x, tick)
					wantThere(t, x, tick, 3, 9)
				} else {
					wantThere(t, x, tick, 9)
				}
			}
			now += gap
		}
		now -= gap
		for tick := now; tick < now+64; tick++ {
			wantThere(t, x, tick, 3, 9)
			wantExpire(t, x, tick)
		}
		wantExpire(t, x, now+64, 3)
		for tick := now + 64; tick < now+200; tick++ {
			wantLive(t, x, 3, tick, false)
			wantThere(t, x, tick, 9)
			wantExpire(t, x, tick)
		}
	}
}

// P12.4: with gaps of all kinds below Lease it is there all the time, up to the latest tick; one that set it but once is there no more.
func TestAgainToTheLatestTick(t *testing.T) {
	below := chance()
	now := uint64(api.MaxTime - 20000)
	x := made(t)
	wantSet(t, x, 4, now, api.OK)
	wantSet(t, x, 3, now, api.OK)
	once := now + api.Lease
	for now < api.MaxTime {
		next := min(now+1+uint64(below(api.Lease-1)), api.MaxTime)
		for ; now < next; now++ {
			wantLive(t, x, 3, now, true)
			wantLive(t, x, 4, now, now < once)
		}
		wantLive(t, x, 3, now, true)
		wantSet(t, x, 3, now, api.OK)
		wantLive(t, x, 3, now, true)
	}
	wantExpire(t, x, now, 4)
	wantAll(t, x, Lease{3, last})
	wantLive(t, x, 3, last-1, true)
	wantLive(t, x, 3, last, false)
	wantExpire(t, x, last-1)
	wantExpire(t, x, last, 3)
}

// P12.5: Expire changes nothing of who is there at that tick, or at any behind, nor of what they do then.
func TestExpireChangesNothing(t *testing.T) {
	list := many(api.MaxClients)
	for now := uint64(98); now < 120; now++ {
		x, kept := made(t, list...), made(t, list...)
		x.Expire(now)
		for tick := now; tick < 130; tick++ {
			wantThere(t, x, tick, kept.There(tick)...)
			for _, one := range list {
				wantLive(t, x, one.Client, tick, kept.Live(one.Client, tick))
			}
		}
		for tick := now; tick < 130; tick++ {
			for _, one := range list {
				a, b := x.Copy(), kept.Copy()
				wantSet(t, a, one.Client, tick, b.Set(one.Client, tick))
				for behind := tick; behind < tick+70; behind++ {
					wantThere(t, a, behind, b.There(behind)...)
				}
			}
		}
	}
}

// book are leases as a list that rises by clients.
type book []Lease

func (b book) find(client uint32) (int, bool) {
	for i, one := range b {
		if one.Client >= client {
			return i, one.Client == client
		}
	}
	return len(b), false
}

func (b book) set(client uint32, now uint64) (book, api.Errno) {
	i, has := b.find(client)
	switch {
	case now > 1<<40:
		return b, 1
	case !has && len(b) == 16:
		return b, 7
	case !has:
		return slices.Insert(slices.Clone(b), i, Lease{client, now + 64}), 0
	}
	out := slices.Clone(b)
	if now+64 > out[i].Until {
		out[i].Until = now + 64
	}
	return out, 0
}

func (b book) drop(client uint32) (book, api.Errno) {
	i, has := b.find(client)
	if !has {
		return b, 6
	}
	return slices.Concat(b[:i], b[i+1:]), 0
}

// step is something to do to leases, and to their book alike; it says whether both told the same, and what is left of the book.
type step func(x *Leases, b book) (bool, book)

func setting(client uint32, now uint64) step {
	return func(x *Leases, b book) (bool, book) {
		out, e := b.set(client, now)
		return x.Set(client, now) == e, out
	}
}

func dropping(client uint32) step {
	return func(x *Leases, b book) (bool, book) {
		out, e := b.drop(client)
		return x.Drop(client) == e, out
	}
}

func expiring(now uint64) step {
	return func(x *Leases, b book) (bool, book) {
		there, not := parted(b, now)
		return slices.Equal(x.Expire(now), told(not)), there
	}
}

func steps() []step {
	return []step{
		setting(1, 0), setting(1, 1), setting(1, 40), setting(2, 1), setting(3, 40), setting(4, api.MaxTime), setting(2, api.MaxTime+1),
		dropping(1), dropping(2), dropping(3), expiring(0), expiring(64), expiring(65), expiring(104),
	}
}

// wantAs asks some of what leases tell, since there are many ways through the steps.
func wantAs(t *testing.T, x *Leases, b book) {
	t.Helper()
	if got := x.All(); !slices.Equal(got, b) {
		t.Errorf("All: got %v, want %v", got, b)
	}
	for _, now := range []uint64{0, 64, 104} {
		there, _ := parted(b, now)
		wantThere(t, x, now, told(there)...)
	}
}

// goThrough does each of the steps to a copy of leases, and then so many further ones.
func goThrough(t *testing.T, x *Leases, b book, most int) {
	t.Helper()
	wantAs(t, x, b)
	if most == 0 {
		return
	}
	for i, do := range steps() {
		x := x.Copy()
		same, left := do(x, b)
		if !same {
			t.Errorf("step %d on %v: not as the book tells it", i, b)
		}
		goThrough(t, x, left, most-1)
	}
}

// P12.1 to P12.3: all that can be done in a few steps, held against the book, with room and where it is short.
func TestSteps(t *testing.T) {
	goThrough(t, made(t), nil, 4)
	list := rising(many(api.MaxClients - 1))
	goThrough(t, made(t, list...), list, 3)
}

// chance tells numbers below a limit, always the same row of them.
func chance() func(below int) int {
	state := uint64(1)
	return func(below int) int {
		state = state*6364136223846793005 + 1442695040888963407
		return int(state >> 33 % uint64(below))
	}
}

// P12.1 to P12.3: a long row of steps, held against the book; there is room at times, and at others none.
func TestManySteps(t *testing.T) {
	below := chance()
	x, b := made(t), book(nil)
	now, empty, full := uint64(0), 0, 0
	for n := range 20000 {
		now += uint64(below(1 + n/1000%5*4))
		var do step
		client := clientAt(below(24))
		switch k := below(40); {
		case k == 0:
			x = x.Copy()
			continue
		case k == 1:
			do = setting(client, api.MaxTime+1+uint64(below(100)))
		case k < 5:
			do = dropping(client)
		case k < 8:
			do = expiring(now)
		case k == 8:
			do = expiring(now + uint64(below(100)))
		default:
			do = setting(client, now-min(now, uint64(below(20))))
		}
		same, left := do(x, b)
		if !same {
			t.Errorf("step %d on %v: not as the book tells it", n, b)
		}
		if b = left; n%16 == 0 {
			wantAll(t, x, b...)
		}
		switch len(b) {
		case 0:
			empty++
		case api.MaxClients:
			full++
		}
		if t.Failed() {
			return
		}
	}
	if empty < 20 || full < 1000 {
		t.Errorf("the steps are not of all kinds: %d times no lease, %d times no room", empty, full)
	}
}

// P12.1: a copy has the same, and lives apart, whichever of the two is changed, and how.
func TestCopy(t *testing.T) {
	list := rising(many(api.MaxClients))
	for _, n := range []int{0, 1, 5, api.MaxClients - 1, api.MaxClients} {
		for _, swap := range []bool{false, true} {
			for i, do := range []func(x *Leases){
				func(x *Leases) { x.Set(5, 500) },
				func(x *Leases) { x.Set(list[0].Client, 500) },
				func(x *Leases) { x.Drop(list[0].Client) },
				func(x *Leases) { x.Expire(50) },
				func(x *Leases) { x.Expire(103) },
				func(x *Leases) { x.Expire(last) },
				func(x *Leases) { *x = Leases{} },
			} {
				x := made(t, list[:n]...)
				other := x.Copy()
				wantAll(t, other, list[:n]...)
				if swap {
					x, other = other, x
				}
				do(x)
				wantAll(t, other, list[:n]...)
				if t.Failed() {
					t.Fatalf("change %d of %d leases", i, n)
				}
				wantExpire(t, other, last, told(list[:n])...)
			}
		}
	}
	// Copies of copies, and each behind some step.
	x := made(t, Lease{1, 70})
	second := x.Copy()
	wantSet(t, second, 2, 10, api.OK)
	third := second.Copy()
	wantDrop(t, third, 1, api.OK)
	wantExpire(t, second, 70, 1)
	wantAll(t, x, Lease{1, 70})
	wantAll(t, second, Lease{2, 74})
	wantAll(t, third, Lease{2, 74})
	wantSet(t, third, 2, 20, api.OK)
	wantAll(t, second, Lease{2, 74})
	wantAll(t, third, Lease{2, 84})
}

// P12.1, P12.2: a copy has as much room as that of which it is one.
func TestCopyFull(t *testing.T) {
	list := many(api.MaxClients)
	c := made(t, list...).Copy()
	wantSet(t, c, 5, 0, api.ErrFull)
	wantSet(t, c, list[0].Client, 0, api.OK)
	wantDrop(t, c, list[0].Client, api.OK)
	wantSet(t, c, 5, 0, api.OK)
	wantSet(t, c, 6, 0, api.ErrFull)
}

// P12.1: leases of New have nothing in common, also where they were given one list.
func TestNewLivesApart(t *testing.T) {
	list := []Lease{{2, 40}, {1, 50}}
	a, b, c, d := made(t, list...), made(t, list...), made(t), made(t)
	wantSet(t, a, 2, 40, api.OK)
	wantSet(t, a, 3, 40, api.OK)
	wantSet(t, c, 3, 40, api.OK)
	wantDrop(t, b, 1, api.OK)
	wantAll(t, a, Lease{1, 50}, Lease{2, 104}, Lease{3, 104})
	wantAll(t, b, Lease{2, 40})
	wantAll(t, c, Lease{3, 104})
	wantAll(t, d)
}

// spoil writes over all that a list has, and over the room behind it.
func spoil[T any](list []T, with T) {
	list = list[:cap(list)]
	for i := range list {
		list[i] = with
	}
}

// P12.1 (R3): what New is given stays as it is, and is not kept.
func TestGivenStays(t *testing.T) {
	list := many(api.MaxClients + 4)
	for _, n := range []int{0, 1, 5, api.MaxClients} {
		given := slices.Clone(list)
		x := made(t, given[:n]...)
		wantSet(t, x, clientAt(0), 900, api.OK)
		x.Expire(105)
		x.Drop(clientAt(6))
		if !slices.Equal(given, list) {
			t.Errorf("New of %d leases, and what was done behind it, changed what was given", n)
		}
		want := x.All()
		spoil(given, Lease{77, 7})
		wantAll(t, x, want...)
	}
	for _, wrong := range [][]Lease{list, append(many(3), many(2)...), {{5, 1}, {3, 1}, {4, last + 1}, {1, 1}}} {
		given := slices.Clone(wrong)
		New(given...)
		if !slices.Equal(given, wrong) {
			t.Error("New with an error changed what was given")
		}
	}
}

// P12.1, P12.3 (R3): what is told is new memory: no two answers share any, nor has it to do with what is kept.
func TestAnswersAreNew(t *testing.T) {
	list := rising(many(api.MaxClients))
	x := made(t, list...)
	other := x.Copy()
	for range 2 {
		all, there := x.All(), x.There(0)
		again, thereAgain := x.All(), x.There(0)
		spoil(all, Lease{77, 7})
		spoil(there, 77)
		if !slices.Equal(again, list) || !slices.Equal(thereAgain, told(list)) {
			t.Error("two answers share memory")
		}
		wantAll(t, x, list...)
		wantAll(t, other, list...)
	}
	gone := x.Expire(107)
	there, not := parted(list, 107)
	goneToo := other.Expire(107)
	spoil(gone, 77)
	if !slices.Equal(goneToo, told(not)) {
		t.Error("what Expire told is shared")
	}
	wantAll(t, x, there...)
	wantAll(t, other, there...)
	all := x.All()
	wantSet(t, x, clientAt(9), 700, api.OK)
	x.Drop(clientAt(10))
	x.Expire(last)
	if !slices.Equal(all, there) {
		t.Error("what All told is kept")
	}
}

// P12.1 to P12.3 (R7): the same calls tell the same, each time.
func TestSameEachTime(t *testing.T) {
	list := many(api.MaxClients)
	for range 300 {
		x := made(t, list...)
		wantThere(t, x, 107, told(rising(list[8:]))...)
		wantExpire(t, x, 107, told(rising(list[:8]))...)
		wantAll(t, x, rising(list[8:])...)
	}
}

// P12.1 (R1): New of a very long list ends soon; what is wrong is told from its end too.
func TestNewOfVeryMany(t *testing.T) {
	list := many(1 << 20)
	wantNewLong := func(want api.Errno) {
		t.Helper()
		if x, e := New(list...); x != nil || e != want {
			t.Errorf("New of %d leases: got %v, error %d, want none, error %d", len(list), x, e, want)
		}
	}
	wantNewLong(api.ErrFull)
	list[len(list)-1].Client = list[0].Client
	wantNewLong(api.ErrArg)
	list[len(list)-1] = Lease{clientAt(len(list)), last + 1}
	wantNewLong(api.ErrArg)
}
