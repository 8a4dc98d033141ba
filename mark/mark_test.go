package mark

import (
	"cmp"
	"math"
	"slices"
	"testing"

	"copybook/api"
	"copybook/unit"
	"copybook/weave"
)

func unitOf(kind, pos int, c api.Char) api.Unit {
	return api.Unit{Kind: kind, Pos: pos, Char: c, Id: api.Id{Client: 2, Req: 7}}
}

func ins(pos int) api.Unit { return unitOf(api.Ins, pos, 'x') }

func del(pos int) api.Unit { return unitOf(api.Del, pos, 0) }

func nop() api.Unit { return unitOf(api.Nop, 0, 0) }

func rowOf(units ...api.Unit) []api.Unit { return units }

// wrong are units that may not be.
func wrong() []api.Unit {
	out := []api.Unit{unitOf(api.Nop, 1, 0), unitOf(api.Nop, -1, 0), unitOf(api.Nop, 0, 'x')}
	for _, kind := range []int{api.Ins, api.Del} {
		out = append(out, unitOf(kind, -1, 'x'), unitOf(kind, math.MinInt, 'x'))
		for _, c := range []api.Char{-1, math.MinInt32, 0xd800, 0xdfff, 0x110000, math.MaxInt32} {
			out = append(out, unitOf(kind, 0, c))
		}
	}
	for _, kind := range []int{math.MinInt, -1, 3, 4, math.MaxInt, api.Ins + 256, api.Del + 1<<32} {
		out = append(out, unitOf(kind, 0, 0), unitOf(kind, 1, 'x'))
	}
	return out
}

// clients are some, at both ends and on both sides of where a signed number would be below 0.
func clients() []uint32 {
	return []uint32{0, 1, 2, 15, 16, 17, 255, 256, 1<<31 - 1, 1 << 31, 1<<31 + 1, math.MaxUint32 - 1, math.MaxUint32}
}

// made are marks of New.
func made(t *testing.T, long int) *Marks {
	t.Helper()
	m, e := New(long)
	if e != api.OK || m == nil {
		t.Fatalf("New(%d): got %v, error %d", long, m, e)
	}
	return m
}

// laid are marks of New with these places.
func laid(t *testing.T, long int, list ...Mark) *Marks {
	t.Helper()
	m := made(t, long)
	for _, x := range list {
		wantSet(t, m, x.Client, x.Pos, api.OK)
	}
	return m
}

// everywhere are marks of which one client each stands at each place of the text. The clients do not rise as the places do.
func everywhere(t *testing.T, long int) *Marks {
	t.Helper()
	m := made(t, long)
	for pos := range long + 1 {
		wantSet(t, m, clientAt(pos), pos, api.OK)
	}
	return m
}

func clientAt(pos int) uint32 { return uint32(pos) * 0x9e3779b1 }

func wantSet(t *testing.T, m *Marks, client uint32, pos int, want api.Errno) {
	t.Helper()
	if e := m.Set(client, pos); e != want {
		t.Errorf("Set(%d, %d): got error %d, want %d", client, pos, e, want)
	}
}

func wantDrop(t *testing.T, m *Marks, client uint32, want api.Errno) {
	t.Helper()
	if e := m.Drop(client); e != want {
		t.Errorf("Drop(%d): got error %d, want %d", client, e, want)
	}
}

func wantGo(t *testing.T, m *Marks, row []api.Unit, want api.Errno) {
	t.Helper()
	if e := m.Go(row); e != want {
		t.Errorf("Go(%v): got error %d, want %d", row, e, want)
	}
}

func wantGet(t *testing.T, m *Marks, client uint32, want int, there bool) {
	t.Helper()
	if pos, is := m.Get(client); pos != want || is != there {
		t.Errorf("Get(%d): got %d, %v, want %d, %v", client, pos, is, want, there)
	}
}

// wantAll asks all that marks tell: they have this length, and just these places, by rising clients.
func wantAll(t *testing.T, m *Marks, long int, list ...Mark) {
	t.Helper()
	if got := m.Long(); got != long {
		t.Errorf("Long: got %d, want %d", got, long)
	}
	if got := m.All(); !slices.Equal(got, list) {
		t.Errorf("All: got %v, want %v", got, list)
	}
	for _, x := range list {
		wantGet(t, m, x.Client, x.Pos, true)
	}
	for _, client := range clients() {
		if !slices.ContainsFunc(list, func(x Mark) bool { return x.Client == client }) {
			wantGet(t, m, client, 0, false)
		}
	}
}

// P11.1 to P11.3: the chapter's examples.
func TestExamples(t *testing.T) {
	m := made(t, 3)
	wantSet(t, m, 1, 2, api.OK)
	wantSet(t, m, 2, 4, api.ErrRange)
	wantGo(t, m, rowOf(ins(2)), api.OK)
	wantGet(t, m, 1, 3, true)
	wantGo(t, m, rowOf(del(0)), api.OK)
	wantGet(t, m, 1, 2, true)
	wantAll(t, m, 3, Mark{1, 2})
}

// P11.1: lengths below 0, of 0, and above.
func TestNew(t *testing.T) {
	for _, long := range []int{0, 1, 2, 3, api.MaxText - 1, api.MaxText, api.MaxText + 1, 1<<31 - 1, 1 << 31, 1 << 32, 1<<32 - 1, math.MaxInt - 1, math.MaxInt} {
		wantAll(t, made(t, long), long)
	}
	for _, long := range []int{-1, -2, -api.MaxText, -1 << 31, -1 << 32, math.MinInt + 1, math.MinInt} {
		if m, e := New(long); m != nil || e != api.ErrArg {
			t.Errorf("New(%d): got %v, error %d, want none, error %d", long, m, e, api.ErrArg)
		}
	}
}

// P11.1: marks of New, of one length too, have nothing in common.
func TestNewLivesApart(t *testing.T) {
	a, b := made(t, 3), made(t, 3)
	wantSet(t, a, 1, 2, api.OK)
	wantAll(t, b, 3)
	wantSet(t, b, 1, 1, api.OK)
	wantGo(t, b, rowOf(ins(0)), api.OK)
	wantAll(t, a, 3, Mark{1, 2})
	wantAll(t, b, 4, Mark{1, 2})
	wantDrop(t, b, 1, api.OK)
	wantAll(t, a, 3, Mark{1, 2})
	wantAll(t, made(t, 3), 3)
}

// P11.1 to P11.3: no marks, and ones that New did not make, whatever is asked, and in whatever order.
func TestNone(t *testing.T) {
	var value Marks
	over := made(t, 3)
	wantSet(t, over, 1, 2, api.OK)
	*over = Marks{}
	for _, m := range []*Marks{nil, {}, new(Marks), &value, over} {
		for range 2 {
			wantAll(t, m, 0)
			for _, client := range clients() {
				for _, pos := range []int{0, 1, -1, math.MaxInt, math.MinInt} {
					wantSet(t, m, client, pos, api.ErrNil)
				}
				wantDrop(t, m, client, api.ErrNil)
			}
			for _, row := range [][]api.Unit{nil, {}, {nop()}, {ins(0)}, {ins(1)}, {del(0)}, wrong()} {
				wantGo(t, m, row, api.ErrNil)
			}
			if c := m.Copy(); c != nil {
				t.Errorf("Copy: got %v, want none", c)
			}
		}
	}
}

// P11.2: places below 0, at 0, within, at the length, and above, of a client that has a place and of one that has none.
func TestSet(t *testing.T) {
	for _, long := range []int{0, 1, 2, 5, api.MaxText, 1 << 32, math.MaxInt} {
		may := []int{0, long / 2, max(long-1, 0), long}
		mayNot := []int{-1, -2, -long - 1, -1 << 32, math.MinInt, math.MinInt + 1}
		if long < math.MaxInt {
			mayNot = append(mayNot, long+1, long+2, math.MaxInt, long+1<<33)
		}
		for _, client := range clients() {
			m := made(t, long)
			for _, pos := range mayNot {
				wantSet(t, m, client, pos, api.ErrRange)
				wantAll(t, m, long)
			}
			for _, pos := range may {
				wantSet(t, m, client, pos, api.OK)
				wantAll(t, m, long, Mark{client, pos})
				for _, other := range mayNot {
					wantSet(t, m, client, other, api.ErrRange)
					wantAll(t, m, long, Mark{client, pos})
				}
				wantSet(t, m, client, pos, api.OK)
				wantAll(t, m, long, Mark{client, pos})
			}
		}
	}
}

// P11.2: a client's place is its own: no other one is set with it, also where they stand at one place.
func TestSetOthers(t *testing.T) {
	m := laid(t, 5, Mark{7, 2}, Mark{3, 2}, Mark{math.MaxUint32, 5}, Mark{0, 0})
	wantSet(t, m, 3, 4, api.OK)
	wantAll(t, m, 5, Mark{0, 0}, Mark{3, 4}, Mark{7, 2}, Mark{math.MaxUint32, 5})
	wantSet(t, m, 3, 2, api.OK)
	wantSet(t, m, 7, 1, api.OK)
	wantSet(t, m, 3, 6, api.ErrRange)
	wantSet(t, m, 8, 6, api.ErrRange)
	wantSet(t, m, 0, 5, api.OK)
	wantAll(t, m, 5, Mark{0, 5}, Mark{3, 2}, Mark{7, 1}, Mark{math.MaxUint32, 5})
}

// P11.2, P11.3: it is the length behind the rows that says which places there are.
func TestSetBehindRows(t *testing.T) {
	m := laid(t, 2, Mark{1, 1})
	wantGo(t, m, rowOf(ins(2), ins(3)), api.OK)
	wantSet(t, m, 2, 5, api.ErrRange)
	wantSet(t, m, 2, 4, api.OK)
	wantAll(t, m, 4, Mark{1, 1}, Mark{2, 4})
	wantGo(t, m, rowOf(del(0), del(0), del(0)), api.OK)
	wantSet(t, m, 1, 2, api.ErrRange)
	wantSet(t, m, 1, 4, api.ErrRange)
	wantSet(t, m, 3, 1, api.OK)
	wantAll(t, m, 1, Mark{1, 0}, Mark{2, 1}, Mark{3, 1})
	wantGo(t, m, rowOf(del(0)), api.OK)
	wantSet(t, m, 4, 1, api.ErrRange)
	wantSet(t, m, 4, 0, api.OK)
	wantAll(t, m, 0, Mark{1, 0}, Mark{2, 0}, Mark{3, 0}, Mark{4, 0})
}

// P11.2: Drop of a client that has a place, of one that has none, and again; no other one goes with it.
func TestDrop(t *testing.T) {
	all := []Mark{{0, 3}, {1, 0}, {2, 1}, {17, 1}, {1 << 31, 2}, {math.MaxUint32, 3}}
	for i, x := range all {
		m := laid(t, 3, all...)
		rest := slices.Concat(all[:i], all[i+1:])
		wantDrop(t, m, 16, api.ErrNone)
		wantAll(t, m, 3, all...)
		wantDrop(t, m, x.Client, api.OK)
		wantAll(t, m, 3, rest...)
		wantDrop(t, m, x.Client, api.ErrNone)
		wantDrop(t, m, x.Client, api.ErrNone)
		wantAll(t, m, 3, rest...)
		wantGo(t, m, rowOf(ins(0)), api.OK)
		wantGet(t, m, x.Client, 0, false)
		wantSet(t, m, x.Client, 5, api.ErrRange)
		wantDrop(t, m, x.Client, api.ErrNone)
		wantSet(t, m, x.Client, 4, api.OK)
		wantGet(t, m, x.Client, 4, true)
		wantDrop(t, m, x.Client, api.OK)
		wantGet(t, m, x.Client, 0, false)
	}
	m := laid(t, 3, all...)
	for i, x := range all {
		wantDrop(t, m, x.Client, api.OK)
		wantAll(t, m, 3, all[i+1:]...)
	}
	for _, client := range clients() {
		wantDrop(t, m, client, api.ErrNone)
		wantDrop(t, made(t, 0), client, api.ErrNone)
	}
	wantGo(t, m, rowOf(del(0)), api.OK)
	wantAll(t, m, 2)
	wantSet(t, m, 9, 2, api.OK)
	wantAll(t, m, 2, Mark{9, 2})
}

// orders calls f with each order of a list.
func orders(list []Mark, f func([]Mark)) {
	var from func(n int)
	from = func(n int) {
		if n == len(list) {
			f(slices.Clone(list))
		}
		for i := n; i < len(list); i++ {
			list[n], list[i] = list[i], list[n]
			from(n + 1)
			list[n], list[i] = list[i], list[n]
		}
	}
	from(0)
}

// P11.1: All tells them by rising clients, whatever the order they were set in.
func TestAllRises(t *testing.T) {
	all := []Mark{{0, 4}, {1, 4}, {2, 0}, {1<<31 - 1, 3}, {1 << 31, 1}, {math.MaxUint32, 2}}
	orders(slices.Clone(all), func(order []Mark) {
		wantAll(t, laid(t, 4, order...), 4, all...)
	})
	// Also where clients were dropped and set again.
	orders(slices.Clone(all[:4]), func(order []Mark) {
		m := laid(t, 4, order...)
		for _, x := range order[1:3] {
			wantDrop(t, m, x.Client, api.OK)
		}
		for _, x := range order[1:3] {
			wantSet(t, m, x.Client, x.Pos, api.OK)
		}
		wantAll(t, m, 4, all[:4]...)
	})
}

// P11.1: many clients, each with a place; there is no limit to how many.
func TestManyClients(t *testing.T) {
	const many = 20000
	m := made(t, many)
	var all []Mark
	for i := range many {
		x := Mark{uint32(i) * 0x9e3779b1, i}
		wantSet(t, m, x.Client, x.Pos, api.OK)
		all = append(all, x)
	}
	slices.SortFunc(all, func(a, b Mark) int { return cmp.Compare(a.Client, b.Client) })
	wantAll(t, m, many, all...)
	wantGo(t, m, rowOf(ins(0), ins(0), del(0)), api.OK)
	for i := range all {
		all[i].Pos++
	}
	wantAll(t, m, many+1, all...)
	wantAll(t, m.Copy(), many+1, all...)
	for _, x := range all[1:] {
		wantDrop(t, m, x.Client, api.OK)
	}
	wantAll(t, m, many+1, all[0])
}

// P11.3: rows that fit, with places ahead of, at and behind what each unit does, at 0 and at the length: where each place of the text comes to be.
func TestGo(t *testing.T) {
	for _, x := range []struct {
		long int
		row  []api.Unit
		left int
		want []int
	}{
		{0, nil, 0, []int{0}},
		{3, nil, 3, []int{0, 1, 2, 3}},
		{3, rowOf(nop()), 3, []int{0, 1, 2, 3}},
		{3, rowOf(nop(), nop(), nop()), 3, []int{0, 1, 2, 3}},
		// A place goes on behind an Ins at it.
		{0, rowOf(ins(0)), 1, []int{1}},
		{3, rowOf(ins(0)), 4, []int{1, 2, 3, 4}},
		{3, rowOf(ins(1)), 4, []int{0, 2, 3, 4}},
		{3, rowOf(ins(2)), 4, []int{0, 1, 3, 4}},
		{3, rowOf(ins(3)), 4, []int{0, 1, 2, 4}},
		// A place stays behind a Del at it.
		{1, rowOf(del(0)), 0, []int{0, 0}},
		{3, rowOf(del(0)), 2, []int{0, 0, 1, 2}},
		{3, rowOf(del(1)), 2, []int{0, 1, 1, 2}},
		{3, rowOf(del(2)), 2, []int{0, 1, 2, 2}},
		// Each unit is meant for the text that the ones ahead leave.
		{3, rowOf(ins(1), ins(1)), 5, []int{0, 3, 4, 5}},
		{3, rowOf(ins(1), ins(2)), 5, []int{0, 3, 4, 5}},
		{3, rowOf(ins(2), ins(1)), 5, []int{0, 2, 4, 5}},
		{3, rowOf(ins(3), ins(4)), 5, []int{0, 1, 2, 5}},
		{3, rowOf(ins(3), ins(3)), 5, []int{0, 1, 2, 5}},
		{3, rowOf(ins(0), ins(1), ins(2), ins(3)), 7, []int{4, 5, 6, 7}},
		{3, rowOf(del(0), del(0), del(0)), 0, []int{0, 0, 0, 0}},
		{3, rowOf(del(2), del(1), del(0)), 0, []int{0, 0, 0, 0}},
		{3, rowOf(del(1), del(1)), 1, []int{0, 1, 1, 1}},
		{3, rowOf(del(1), ins(1)), 3, []int{0, 2, 2, 3}},
		{3, rowOf(ins(1), del(1)), 3, []int{0, 1, 2, 3}},
		{3, rowOf(ins(1), del(2)), 3, []int{0, 2, 2, 3}},
		{3, rowOf(nop(), del(0), nop(), ins(2), nop()), 3, []int{0, 0, 1, 3}},
		{3, rowOf(del(0), ins(0), del(1), ins(1)), 3, []int{2, 2, 2, 3}},
	} {
		m := everywhere(t, x.long)
		wantGo(t, m, x.row, api.OK)
		var want []Mark
		for pos, now := range x.want {
			want = append(want, Mark{clientAt(pos), now})
		}
		slices.SortFunc(want, func(a, b Mark) int { return cmp.Compare(a.Client, b.Client) })
		wantAll(t, m, x.left, want...)
		alone := made(t, x.long)
		wantGo(t, alone, x.row, api.OK)
		wantAll(t, alone, x.left)
	}
}

// P11.3: whose a unit is does not matter: of an Ins at its own client's place it goes on too.
func TestGoByIds(t *testing.T) {
	for _, client := range clients() {
		for _, id := range []api.Id{{}, {Client: client}, {Client: client, Req: math.MaxUint64}, {Client: client + 1, Req: 1}, {Client: client - 1, Req: 1}} {
			m := laid(t, 2, Mark{client, 1})
			u, v := ins(1), del(0)
			u.Id, v.Id = id, id
			wantGo(t, m, rowOf(u), api.OK)
			wantAll(t, m, 3, Mark{client, 2})
			wantGo(t, m, rowOf(v, u), api.OK)
			wantAll(t, m, 3, Mark{client, 2})
		}
	}
}

// P11.3: Each of weave.Long's errors, at the first unit and at a later one, and their order; nothing moves then.
func TestGoErrors(t *testing.T) {
	for _, long := range []int{0, 1, 3} {
		m := everywhere(t, long)
		all := m.All()
		for _, row := range [][]api.Unit{
			{ins(long + 1)}, {del(long)}, {del(long + 1)}, {ins(math.MaxInt)}, {del(math.MaxInt)}, {ins(long + 1<<32)}, {del(1 << 32)},
			{ins(0), ins(long + 2)}, {ins(0), del(long + 1)}, {ins(0), ins(0), ins(0), del(long + 3)}, {nop(), ins(long + 1), nop()},
			{ins(0), del(0), del(long)}, {ins(long + 1), del(0)}, {ins(0), ins(1), ins(long + 3), ins(0)},
			slices.Repeat(rowOf(del(0)), long+1), append(slices.Repeat(rowOf(del(0)), long), ins(1)),
		} {
			wantGo(t, m, row, api.ErrRange)
			wantAll(t, m, long, all...)
		}
		for _, u := range wrong() {
			for _, row := range [][]api.Unit{{u}, {u, ins(0)}, {ins(0), u}, {ins(0), ins(0), u, nop()}, {del(long), u}, {u, ins(long + 1)}, {ins(0), ins(long + 2), u}} {
				wantGo(t, m, row, api.ErrArg)
				wantAll(t, m, long, all...)
			}
		}
		wantGo(t, m, rowOf(ins(long)), api.OK)
		wantGet(t, m, clientAt(long), long+1, true)
	}
}

// P11.3: as weave tells it, also of the greatest lengths.
func TestGoAsWeave(t *testing.T) {
	list := [][]api.Unit{nil, {nop()}, {ins(0)}, {del(0)}, {ins(2), del(2), del(1)}, {ins(1), ins(1)}, {ins(math.MaxInt)}, {del(math.MaxInt)}, {del(math.MaxInt - 1)}, {del(0), ins(math.MaxInt - 1)}, {ins(1 << 32)}, {del(1 << 31)}}
	for _, u := range wrong() {
		list = append(list, rowOf(u), rowOf(ins(1), u))
	}
	for _, long := range []int{0, 1, 2, 3, api.MaxText, 1 << 31, 1 << 32, math.MaxInt - 1, math.MaxInt} {
		at := []int{0, 1, long / 2, long - 1, long}
		for _, row := range list {
			m := made(t, long)
			var all []Mark
			for i, pos := range at {
				if pos >= 0 && pos <= long {
					wantSet(t, m, uint32(i), pos, api.OK)
					all = append(all, Mark{uint32(i), pos})
				}
			}
			left, e := weave.Long(row, long)
			wantGo(t, m, row, e)
			if e != api.OK {
				wantAll(t, m, long, all...)
				continue
			}
			for i := range all {
				all[i].Pos = weave.Place(all[i].Pos, row)
			}
			wantAll(t, m, left, all...)
		}
	}
}

// rows are all rows of up to so many units that fit a length.
func rows(long, most int) [][]api.Unit {
	out := [][]api.Unit{nil}
	if most == 0 {
		return out
	}
	ahead := func(u api.Unit) {
		for _, row := range rows(long+unit.Grows(u), most-1) {
			out = append(out, slices.Concat(rowOf(u), row))
		}
	}
	ahead(nop())
	for pos := range long + 1 {
		ahead(ins(pos))
	}
	for pos := range long {
		ahead(del(pos))
	}
	return out
}

// tape is a text with the places in it: of each code point 0, and of each client's place the client, above 0; each place has the code points ahead of it that it counts.
type tape []uint32

func blank(long int) tape { return make(tape, long) }

// code is where the code point of this number stands; the tape's end, if there is none.
func (x tape) code(n int) int {
	for i, c := range x {
		if c == 0 && n == 0 {
			return i
		}
		if c == 0 {
			n--
		}
	}
	return len(x)
}

// behind is where the tape goes on right behind so many code points, ahead of the places that stand there.
func (x tape) behind(many int) int {
	if many == 0 {
		return 0
	}
	return x.code(many-1) + 1
}

func (x tape) long() int {
	long := 0
	for _, c := range x {
		if c == 0 {
			long++
		}
	}
	return long
}

func (x tape) drop(client uint32) (tape, api.Errno) {
	at := slices.Index(x, client)
	if at < 0 {
		return x, api.ErrNone
	}
	return slices.Concat(x[:at], x[at+1:]), api.OK
}

func (x tape) set(client uint32, pos int) (tape, api.Errno) {
	if pos < 0 || pos > x.long() {
		return x, api.ErrRange
	}
	out, _ := x.drop(client)
	return slices.Insert(slices.Clone(out), out.behind(pos), client), api.OK
}

// goes is the tape behind a row: what is typed stands right behind what stood ahead of it, and the places stay on their side.
func (x tape) goes(row []api.Unit) (tape, api.Errno) {
	for _, u := range row {
		if !unit.May(u) {
			return x, api.ErrArg
		}
	}
	out := slices.Clone(x)
	for _, u := range row {
		switch long := out.long(); {
		case u.Kind == api.Ins && u.Pos <= long:
			out = slices.Insert(out, out.behind(u.Pos), 0)
		case u.Kind == api.Del && u.Pos < long:
			at := out.code(u.Pos)
			out = slices.Delete(out, at, at+1)
		case u.Kind != api.Nop:
			return x, api.ErrRange
		}
	}
	return out, api.OK
}

// all are the tape's places, by rising clients.
func (x tape) all() []Mark {
	var out []Mark
	ahead := 0
	for _, c := range x {
		if c == 0 {
			ahead++
			continue
		}
		out = append(out, Mark{c, ahead})
	}
	slices.SortFunc(out, func(a, b Mark) int { return cmp.Compare(a.Client, b.Client) })
	return out
}

func wantAs(t *testing.T, m *Marks, x tape) {
	t.Helper()
	wantAll(t, m, x.long(), x.all()...)
}

// P11.3: all short rows, with a client at each place of the text, held against the tape.
func TestGoOnTapes(t *testing.T) {
	for long := range 4 {
		for _, row := range rows(long, 3) {
			m, x := made(t, long), blank(long)
			for pos := range long + 1 {
				client := uint32(10 - pos)
				wantSet(t, m, client, pos, api.OK)
				x, _ = x.set(client, pos)
			}
			x, e := x.goes(row)
			wantGo(t, m, row, e)
			wantAs(t, m, x)
		}
	}
}

// step is something to do to marks, and to their tape alike; it tells the error of each.
type step func(m *Marks, x tape) (api.Errno, tape, api.Errno)

func setting(client uint32, pos int) step {
	return func(m *Marks, x tape) (api.Errno, tape, api.Errno) {
		out, e := x.set(client, pos)
		return m.Set(client, pos), out, e
	}
}

func dropping(client uint32) step {
	return func(m *Marks, x tape) (api.Errno, tape, api.Errno) {
		out, e := x.drop(client)
		return m.Drop(client), out, e
	}
}

func going(row ...api.Unit) step {
	return func(m *Marks, x tape) (api.Errno, tape, api.Errno) {
		out, e := x.goes(row)
		return m.Go(row), out, e
	}
}

func steps() []step {
	return []step{
		setting(1, 0), setting(1, 1), setting(2, 1), setting(2, 2), setting(1, -1), setting(2, 3), dropping(1), dropping(2),
		going(), going(ins(0)), going(ins(1), ins(1)), going(del(0)), going(del(1), nop()), going(ins(0), unitOf(7, 0, 0)),
	}
}

// goThrough does each of the steps to a copy of marks, and then so many further ones.
func goThrough(t *testing.T, m *Marks, x tape, most int) {
	t.Helper()
	wantAs(t, m, x)
	if most == 0 {
		return
	}
	for i, do := range steps() {
		m := m.Copy()
		got, next, want := do(m, x)
		if got != want {
			t.Errorf("step %d on %v: got error %d, want %d", i, x, got, want)
		}
		goThrough(t, m, next, most-1)
	}
}

// P11.1 to P11.3: all that can be done in a few steps, held against the tape.
func TestSteps(t *testing.T) {
	for long := range 3 {
		goThrough(t, made(t, long), blank(long), 4)
	}
}

// chance tells numbers below a limit, always the same row of them.
func chance() func(below int) int {
	state := uint64(1)
	return func(below int) int {
		state = state*6364136223846793005 + 1442695040888963407
		return int(state >> 33 % uint64(below))
	}
}

// someRow is a row that mostly fits a length, and mostly lets it be about as long.
func someRow(long int, below func(int) int) []api.Unit {
	var row []api.Unit
	for range below(6) {
		switch k := below(25); {
		case k == 0:
			row = append(row, ins(long+below(2)))
		case k == 1:
			row = append(row, nop())
		case k < 14 && long > 0:
			row, long = append(row, del(below(long))), long-1
		default:
			row, long = append(row, ins(below(long+1))), long+1
		}
	}
	return row
}

// P11.1 to P11.3: a long row of steps, held against the tape; the text is empty at times.
func TestManySteps(t *testing.T) {
	below := chance()
	m, x := made(t, 8), blank(8)
	empty, gone := 0, 0
	for n := range 8000 {
		var do step
		client := clients()[1+below(12)]
		switch k := below(20); {
		case k == 0:
			m = m.Copy()
			continue
		case k < 6:
			do = setting(client, below(x.long()+3)-1)
		case k < 8:
			do = dropping(client)
		default:
			do = going(someRow(x.long(), below)...)
		}
		got, next, want := do(m, x)
		if got != want {
			t.Errorf("step %d on %v: got error %d, want %d", n, x, got, want)
		}
		if x = next; x.long() == 0 {
			empty++
		}
		if want == api.ErrRange {
			gone++
		}
		wantAs(t, m, x)
	}
	if empty == 0 || gone == 0 {
		t.Errorf("the text was empty %d times, and %d steps were out of range", empty, gone)
	}
}

// wantOrder asks that behind rows no place is out of the text, and that of any two places, as they were, the one that was not ahead of the other one is not ahead of it.
func wantOrder(t *testing.T, m *Marks, was []Mark, what any) {
	t.Helper()
	now := m.All()
	if len(now) != len(was) {
		t.Fatalf("behind %v: got %v, of %v", what, now, was)
	}
	for i, a := range now {
		if a.Pos < 0 || a.Pos > m.Long() {
			t.Errorf("behind %v: %v of a text of %d", what, a, m.Long())
		}
		for j, b := range now {
			if was[i].Pos >= was[j].Pos && a.Pos < b.Pos {
				t.Errorf("behind %v: %v and %v, of %v and %v", what, a, b, was[i], was[j])
			}
		}
	}
}

// P11.4: all short rows, with two clients at each place, and long ones.
func TestOrder(t *testing.T) {
	for long := range 4 {
		for _, row := range rows(long, 3) {
			m := everywhere(t, long)
			for pos := range long + 1 {
				wantSet(t, m, uint32(5+pos), pos, api.OK)
			}
			was := m.All()
			wantGo(t, m, row, api.OK)
			wantOrder(t, m, was, row)
		}
	}
	below := chance()
	m := everywhere(t, 12)
	first := m.All()
	for n := range 3000 {
		was := m.All()
		m.Go(someRow(m.Long(), below))
		wantOrder(t, m, was, n)
		wantOrder(t, m, first, n)
		if n%40 == 39 {
			m = everywhere(t, 12)
		}
	}
}

// wantAlike asks two marks for the same.
func wantAlike(t *testing.T, a, b *Marks) {
	t.Helper()
	wantAll(t, a, b.Long(), b.All()...)
}

// P11.5: all short rows, parted at each unit, into two parts, three, and one by one.
func TestParts(t *testing.T) {
	for long := range 4 {
		for _, row := range rows(long, 3) {
			whole := everywhere(t, long)
			wantGo(t, whole, row, api.OK)
			single := everywhere(t, long)
			for _, u := range row {
				wantGo(t, single, rowOf(u), api.OK)
			}
			wantAlike(t, single, whole)
			for i := range len(row) + 1 {
				for j := i; j <= len(row); j++ {
					m := everywhere(t, long)
					for _, part := range [][]api.Unit{row[:i], row[i:j], row[j:]} {
						wantGo(t, m, part, api.OK)
					}
					wantAlike(t, m, whole)
				}
			}
		}
	}
}

// P11.5: many rows, one by one, and all as one.
func TestPartsOfMany(t *testing.T) {
	below := chance()
	for range 60 {
		m, whole := everywhere(t, 9), everywhere(t, 9)
		var all []api.Unit
		for range 30 {
			row := someRow(m.Long(), below)
			if m.Go(row) == api.OK {
				all = append(all, row...)
			}
		}
		if len(all) < 30 {
			t.Fatalf("only %d units went", len(all))
		}
		wantGo(t, whole, all, api.OK)
		wantAlike(t, m, whole)
	}
}

// P11.1: a copy has the same, and lives apart: what is done to one of both is not done to the other one.
func TestCopy(t *testing.T) {
	all := []Mark{{0, 0}, {3, 2}, {1 << 31, 2}, {math.MaxUint32, 4}}
	for _, do := range []func(m *Marks){
		func(m *Marks) { wantSet(t, m, 3, 1, api.OK) },
		func(m *Marks) { wantSet(t, m, 2, 1, api.OK) },
		func(m *Marks) { wantDrop(t, m, 3, api.OK) },
		func(m *Marks) { wantGo(t, m, rowOf(ins(0)), api.OK) },
		func(m *Marks) { wantGo(t, m, rowOf(ins(2), del(3)), api.OK) },
		func(m *Marks) { wantGo(t, m, rowOf(del(0), del(0), del(0), del(0)), api.OK) },
		func(m *Marks) { spoil(m.All(), Mark{3, 9}) },
		func(m *Marks) { *m = Marks{} },
	} {
		m := laid(t, 4, all...)
		c := m.Copy()
		wantAll(t, c, 4, all...)
		do(m)
		wantAll(t, c, 4, all...)
		again := c.Copy()
		do(c)
		wantAll(t, again, 4, all...)
		wantGo(t, again, rowOf(ins(4)), api.OK)
		wantSet(t, again, 0, 5, api.OK)
		wantAll(t, again, 5, Mark{0, 5}, Mark{3, 2}, Mark{1 << 31, 2}, Mark{math.MaxUint32, 5})
	}
}

// P11.1: copies of marks without a client are marks too.
func TestCopyOfEmpty(t *testing.T) {
	for _, long := range []int{0, 1, math.MaxInt} {
		dropped := laid(t, long, Mark{1, long})
		wantDrop(t, dropped, 1, api.OK)
		for _, m := range []*Marks{made(t, long), dropped, made(t, long).Copy()} {
			c := m.Copy()
			wantAll(t, c, long)
			wantSet(t, c, 1, long, api.OK)
			wantSet(t, c, 2, -1, api.ErrRange)
			wantDrop(t, c, 2, api.ErrNone)
			wantGo(t, c, rowOf(nop()), api.OK)
			wantAll(t, c, long, Mark{1, long})
			wantAll(t, m, long)
		}
	}
}

// P11.4: also of marks that were copied as a value, and their copy, each has places of its own text alone.
func TestCopiedAsValue(t *testing.T) {
	m := everywhere(t, 5)
	was, c := m.All(), *m
	wantGo(t, &c, rowOf(del(0), del(0), del(0)), api.OK)
	wantAll(t, m, 5, was...)
	wantOrder(t, &c, was, "three Dels")
	wantGo(t, m, rowOf(ins(0)), api.OK)
	wantGet(t, m, clientAt(5), 6, true)
	wantGet(t, &c, clientAt(5), 2, true)
}

// spoil writes over all that a list has, and into the room behind it.
func spoil[T any](list []T, x T) {
	for i := range list {
		list[i] = x
	}
	_ = append(list, x, x)
}

// P11.3, R3: a row that is given stays, also the room behind it, and is not kept.
func TestGiven(t *testing.T) {
	room := rowOf(ins(0), del(2), nop(), ins(3), del(9), ins(9))
	kept := slices.Clone(room)
	for size := range len(room) + 1 {
		m, other := everywhere(t, 4), everywhere(t, 4)
		e := m.Go(room[:size])
		if !slices.Equal(room, kept) {
			t.Fatalf("what was given: got %v, want %v", room, kept)
		}
		wantGo(t, other, slices.Clone(room[:size]), e)
		spoil(room, ins(0))
		wantAlike(t, m, other)
		wantGo(t, m, rowOf(ins(4)), api.OK)
		wantGo(t, other, rowOf(ins(4)), api.OK)
		wantAlike(t, m, other)
		copy(room, kept)
	}
}

// P11.1, R3: what All tells is new memory: what is written there changes no marks and no other answer, and what is done to the marks does not change what was told.
func TestToldIsNew(t *testing.T) {
	all := []Mark{{1, 0}, {2, 3}, {3, 1}}
	m := laid(t, 3, all...)
	list, other := m.All(), m.All()
	spoil(list, Mark{9, 9})
	wantAll(t, m, 3, all...)
	if !slices.Equal(other, all) {
		t.Errorf("another answer: got %v, want %v", other, all)
	}
	spoil(m.All()[:1], Mark{9, 9})
	wantAll(t, m, 3, all...)
	wantSet(t, m, 1, 2, api.OK)
	wantDrop(t, m, 3, api.OK)
	wantSet(t, m, 0, 1, api.OK)
	wantGo(t, m, rowOf(ins(0)), api.OK)
	if !slices.Equal(other, all) {
		t.Errorf("what was told: got %v, want %v", other, all)
	}
	wantAll(t, m, 4, Mark{0, 2}, Mark{1, 3}, Mark{2, 4})
}

// R7: two marks to which the same is done answer alike, each time, whatever is asked of them in between.
func TestAgain(t *testing.T) {
	below := chance()
	a, b := everywhere(t, 40), everywhere(t, 40)
	for range 300 {
		row := someRow(a.Long(), below)
		wantGo(t, b, row, a.Go(row))
		client, pos := clients()[below(13)], below(a.Long()+2)
		wantSet(t, b, client, pos, a.Set(client, pos))
		client = clients()[below(13)]
		wantDrop(t, b, client, a.Drop(client))
		spoil(b.All(), Mark{})
		b.Copy().Go(rowOf(ins(0)))
		b.Copy().Drop(client)
		b.Set(77, -1)
		b.Go(rowOf(ins(-1)))
		made(t, 40).Set(client, 3)
		wantAlike(t, a, b)
		wantAlike(t, b, b)
	}
}

// R1: long rows, in time that goes with their length.
func TestLong(t *testing.T) {
	const long = 200000
	var typed, erased []api.Unit
	for i := range long {
		typed, erased = append(typed, ins(i+1)), append(erased, del(1))
	}
	m := laid(t, 2, Mark{1, 0}, Mark{2, 1}, Mark{3, 2})
	for range 3 {
		wantGo(t, m, typed, api.OK)
		wantAll(t, m, long+2, Mark{1, 0}, Mark{2, long + 1}, Mark{3, long + 2})
		wantGo(t, m, erased, api.OK)
		wantAll(t, m, 2, Mark{1, 0}, Mark{2, 1}, Mark{3, 2})
	}
}
