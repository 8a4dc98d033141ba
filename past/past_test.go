package past

import (
	"math"
	"slices"
	"strconv"
	"testing"

	"copybook/api"
	"copybook/edit"
	"copybook/weave"
)

func idOf(client uint32, req uint64) api.Id { return api.Id{Client: client, Req: req} }

// me and last are Ids at hand, and furthest the greatest one.
func me() api.Id { return idOf(1, 7) }

func last() api.Id { return idOf(3, 1) }

func furthest() api.Id { return idOf(math.MaxUint32, math.MaxUint64) }

func unitOf(kind, pos int, c api.Char) api.Unit {
	return api.Unit{Kind: kind, Pos: pos, Char: c, Id: me()}
}

func ins(pos int, c api.Char) api.Unit { return unitOf(api.Ins, pos, c) }

func del(pos int, c api.Char) api.Unit { return unitOf(api.Del, pos, c) }

func nop() api.Unit { return unitOf(api.Nop, 0, 0) }

// opOf is an operation of these units, whose Id tells its number.
func opOf(n uint64, units ...api.Unit) api.Op { return api.Op{Id: idOf(2, n), Units: units} }

func undone(o api.Op) api.Op {
	o.Undone = true
	return o
}

// wrong are units that may not be.
func wrong() []api.Unit {
	out := []api.Unit{unitOf(api.Nop, 1, 0), unitOf(api.Nop, -1, 0), unitOf(api.Nop, 0, 'x')}
	for _, kind := range []int{api.Ins, api.Del} {
		out = append(out, unitOf(kind, -1, 'x'), unitOf(kind, math.MinInt, 'x'))
		for _, c := range []api.Char{-1, math.MinInt32, 0xd800, 0xdfff, 0x110000, math.MaxInt32} {
			out = append(out, unitOf(kind, 0, c))
		}
	}
	for _, kind := range []int{math.MinInt, -1, 3, 4, math.MaxInt, api.Ins + 256, api.Del + 1<<32} {
		out = append(out, unitOf(kind, 0, 0), unitOf(kind, 1, 'x'))
	}
	return out
}

// made is a past of New.
func made(t *testing.T, from uint64, length int) *Past {
	t.Helper()
	p, e := New(from, length)
	if e != api.OK || p == nil {
		t.Fatalf("New(%d, %d): got %v, error %d", from, length, p, e)
	}
	return p
}

// pushed is a past of New to which operations were pushed.
func pushed(t *testing.T, from uint64, length int, ops ...api.Op) *Past {
	t.Helper()
	p := made(t, from, length)
	for i, o := range ops {
		wantPush(t, p, o, from+uint64(i)+1, api.OK)
	}
	return p
}

// typing are so many operations, each of which types one code point at 0.
func typing(many int) []api.Op {
	var out []api.Op
	for i := range many {
		out = append(out, opOf(uint64(i+1), ins(0, api.Char('a'+i%26))))
	}
	return out
}

func sameOp(a, b api.Op) bool {
	return a.Id == b.Id && a.Undone == b.Undone && slices.Equal(a.Units, b.Units)
}

func wantEnds(t *testing.T, p *Past, from, now uint64) {
	t.Helper()
	if p.From() != from || p.Now() != now || p.Len() != int(now-from) {
		t.Errorf("got From %d, Now %d, Len %d, want %d, %d, %d", p.From(), p.Now(), p.Len(), from, now, now-from)
	}
}

func wantPush(t *testing.T, p *Past, o api.Op, want uint64, err api.Errno) {
	t.Helper()
	if rev, e := p.Push(o); rev != want || e != err {
		t.Errorf("Push(%v): got %d, error %d, want %d, error %d", o, rev, e, want, err)
	}
}

func wantSince(t *testing.T, p *Past, rev uint64, want []api.Op, err api.Errno) {
	t.Helper()
	if got, e := p.Since(rev); e != err || !slices.EqualFunc(got, want, sameOp) {
		t.Errorf("Since(%d): got %v, error %d, want %v, error %d", rev, got, e, want, err)
	}
}

func wantLength(t *testing.T, p *Past, rev uint64, want int, err api.Errno) {
	t.Helper()
	if got, e := p.Length(rev); got != want || e != err {
		t.Errorf("Length(%d): got %d, error %d, want %d, error %d", rev, got, e, want, err)
	}
}

func wantAt(t *testing.T, p *Past, rev uint64, want api.Op, err api.Errno) {
	t.Helper()
	if got, e := p.At(rev); e != err || !sameOp(got, want) {
		t.Errorf("At(%d): got %v, error %d, want %v, error %d", rev, got, e, want, err)
	}
}

func wantUndo(t *testing.T, p *Past, rev uint64, err api.Errno) {
	t.Helper()
	if e := p.Undo(rev); e != err {
		t.Errorf("Undo(%d): got error %d, want %d", rev, e, err)
	}
}

func wantDrop(t *testing.T, p *Past, keep, want int) {
	t.Helper()
	if got := p.Drop(keep); got != want {
		t.Errorf("Drop(%d): got %d, want %d", keep, got, want)
	}
}

// wantRefused asks of a revision that is not there.
func wantRefused(t *testing.T, p *Past, rev uint64, err api.Errno) {
	t.Helper()
	wantSince(t, p, rev, nil, err)
	wantLength(t, p, rev, 0, err)
	wantAt(t, p, rev, api.Op{}, err)
	wantUndo(t, p, rev, err)
}

// wantAll asks all that a past tells: it has these operations from a revision on, and these lengths, one more.
func wantAll(t *testing.T, p *Past, from uint64, ops []api.Op, lengths ...int) {
	t.Helper()
	now := from + uint64(len(ops))
	wantEnds(t, p, from, now)
	for i := range lengths {
		wantLength(t, p, from+uint64(i), lengths[i], api.OK)
		wantSince(t, p, from+uint64(i), ops[i:], api.OK)
	}
	for i := range ops {
		wantAt(t, p, from+uint64(i)+1, ops[i], api.OK)
	}
	wantAt(t, p, from, api.Op{}, api.ErrGone)
	wantUndo(t, p, from, api.ErrGone)
	for back := uint64(1); back <= min(from, 3); back++ {
		wantRefused(t, p, from-back, api.ErrGone)
	}
	for _, rev := range []uint64{now + 1, now + 2, max(now, api.MaxRev) + 1, 1 << 63, math.MaxUint64 - 1, math.MaxUint64} {
		wantRefused(t, p, rev, api.ErrRev)
	}
}

// P10.1 to P10.3: the chapter's examples.
func TestExamples(t *testing.T) {
	p := made(t, 7, 3)
	wantPush(t, p, opOf(1, ins(3, 'x')), 8, api.OK)
	wantPush(t, p, opOf(2), 9, api.OK)
	if p.Now() != 9 {
		t.Errorf("Now: got %d, want 9", p.Now())
	}
	wantLength(t, p, 8, 4, api.OK)
	wantSince(t, p, 8, []api.Op{opOf(2)}, api.OK)
	wantSince(t, p, 6, nil, api.ErrGone)
	wantSince(t, p, 10, nil, api.ErrRev)
	wantUndo(t, p, 8, api.OK)
	wantUndo(t, p, 8, api.ErrUndone)
	wantAt(t, p, 7, api.Op{}, api.ErrGone)
}

// P10.1: pasts from each side of what may be.
func TestNew(t *testing.T) {
	froms := []uint64{0, 1, 7, 1 << 32, api.MaxRev - 1, api.MaxRev}
	above := []uint64{api.MaxRev + 1, 2 * api.MaxRev, 1 << 63, math.MaxUint64}
	lengths := []int{0, 1, api.MaxText, api.MaxText + 1, 1 << 32, math.MaxInt}
	below := []int{-1, -2, math.MinInt}
	for _, length := range lengths {
		for _, from := range froms {
			wantAll(t, made(t, from, length), from, nil, length)
		}
		for _, from := range above {
			wantNoNew(t, from, length)
		}
	}
	for _, length := range below {
		for _, from := range slices.Concat(froms, above) {
			wantNoNew(t, from, length)
		}
	}
}

func wantNoNew(t *testing.T, from uint64, length int) {
	t.Helper()
	if p, e := New(from, length); p != nil || e != api.ErrArg {
		t.Errorf("New(%d, %d): got %v, error %d, want none, error %d", from, length, p, e, api.ErrArg)
	}
}

// P10.1 to P10.4: no past, and one that New did not make, whatever is asked, and in whatever order.
func TestNone(t *testing.T) {
	var value Past
	for _, p := range []*Past{nil, {}, new(Past), &value} {
		for range 2 {
			wantEnds(t, p, 0, 0)
			for _, o := range []api.Op{{}, opOf(1), opOf(1, ins(0, 'x')), opOf(1, ins(1, 'x')), opOf(1, del(0, 0)), opOf(1, wrong()...)} {
				wantPush(t, p, o, 0, api.ErrNil)
			}
			for _, rev := range []uint64{0, 1, api.MaxRev, api.MaxRev + 1, math.MaxUint64} {
				wantRefused(t, p, rev, api.ErrNil)
			}
			for _, keep := range []int{0, 1, -1, api.MaxPast, math.MaxInt, math.MinInt} {
				wantDrop(t, p, keep, 0)
			}
			if c := p.Copy(); c != nil {
				t.Errorf("Copy: got %v, want none", c)
			}
		}
	}
}

// P10.1: From, Now and Len of an empty past, one that grows, a full one, and one that dropped.
func TestEnds(t *testing.T) {
	for _, from := range []uint64{0, 1, 100, api.MaxRev - api.MaxPast} {
		p := made(t, from, 0)
		wantEnds(t, p, from, from)
		for i, o := range typing(api.MaxPast) {
			wantPush(t, p, o, from+uint64(i)+1, api.OK)
			wantEnds(t, p, from, from+uint64(i)+1)
		}
		now := from + api.MaxPast
		wantDrop(t, p, 10, api.MaxPast-10)
		wantEnds(t, p, now-10, now)
		wantDrop(t, p, 0, 10)
		wantEnds(t, p, now, now)
	}
}

// P10.2: operations that fit the length at Now, one behind the other.
func TestPush(t *testing.T) {
	ops := []api.Op{
		{},
		{Id: me(), Units: []api.Unit{ins(2, 'a')}},
		{Id: last(), Units: []api.Unit{nop(), nop()}},
		{Id: furthest(), Units: []api.Unit{ins(0, 0), ins(1, 0x10ffff), ins(5, 0xe000)}},
		{Id: me(), Units: []api.Unit{del(5, 'x'), {Kind: api.Del, Pos: 0, Id: furthest()}, nop(), del(3, 0xd7ff)}},
		{Id: me(), Units: []api.Unit{}, Undone: true},
		{Units: []api.Unit{del(2, 0), del(1, 0), del(0, 0)}, Undone: true},
		{Id: last()},
		{Id: last(), Units: []api.Unit{ins(0, 'b'), del(0, 'c'), ins(0, 'b')}},
	}
	for _, from := range []uint64{0, 1, 100, api.MaxRev - 9} {
		p := made(t, from, 2)
		lengths := []int{2, 2, 3, 3, 6, 3, 3, 0, 0, 1}
		for i, o := range ops {
			wantPush(t, p, o, from+uint64(i)+1, api.OK)
			wantAll(t, p, from, ops[:i+1], lengths[:i+2]...)
		}
	}
}

// P10.2: an operation that does not fit the length at Now is ErrRange, at its first unit and at a later one; one with a unit that may not be is ErrArg, wherever it stands; behind both all is as it was.
func TestPushErrors(t *testing.T) {
	ops := []api.Op{opOf(1, ins(1, 'a'), ins(1, 'b')), opOf(2, del(0, 'c'))}
	p := pushed(t, 40, 2, ops...)
	for _, row := range [][]api.Unit{
		{ins(4, 'x')}, {del(3, 0)}, {ins(math.MaxInt, 'x')}, {del(math.MaxInt, 0)}, {ins(1<<32, 'x')}, {del(1<<32, 0)},
		{ins(3, 'x'), ins(5, 'x')}, {del(0, 0), del(2, 0)}, {del(0, 0), ins(3, 'x')}, {nop(), ins(4, 'x'), nop()},
		{del(0, 0), del(0, 0), del(0, 0), del(0, 0)}, {ins(4, 'x'), del(0, 0)}, {ins(0, 'x'), del(4, 0), nop()},
	} {
		wantPush(t, p, opOf(3, row...), 0, api.ErrRange)
		wantPush(t, p, undone(opOf(3, row...)), 0, api.ErrRange)
	}
	for _, u := range wrong() {
		for _, row := range [][]api.Unit{{u}, {u, nop()}, {ins(0, 'x'), del(3, 0), u}, {del(9, 0), u}, {u, ins(9, 'x')}, {ins(0, 'x'), u, nop()}} {
			wantPush(t, p, opOf(3, row...), 0, api.ErrArg)
		}
	}
	wantAll(t, p, 40, ops, 2, 4, 3)
	for _, length := range []int{0, 1} {
		empty := made(t, 3, length)
		wantPush(t, empty, opOf(1, del(length, 0)), 0, api.ErrRange)
		wantPush(t, empty, opOf(1, ins(length+1, 'x')), 0, api.ErrRange)
		wantAll(t, empty, 3, nil, length)
	}
}

// P10.2: it is the length at Now that counts, not that at another revision.
func TestPushAtNow(t *testing.T) {
	p := pushed(t, 0, 4, opOf(1, del(0, 0), del(0, 0), del(0, 0)))
	wantPush(t, p, opOf(2, del(1, 0)), 0, api.ErrRange)
	wantPush(t, p, opOf(2, ins(1, 'x'), ins(2, 'y')), 2, api.OK)
	wantPush(t, p, opOf(3, ins(4, 'x')), 0, api.ErrRange)
	wantDrop(t, p, 1, 1)
	wantPush(t, p, opOf(3, ins(4, 'x')), 0, api.ErrRange)
	wantDrop(t, p, 0, 1)
	wantPush(t, p, opOf(3, del(3, 0)), 0, api.ErrRange)
	wantPush(t, p, opOf(3, del(2, 0)), 3, api.OK)
	wantLength(t, p, 3, 2, api.OK)
}

// P10.2: Push's error is weave.Long's, of the units and the length at Now, also of the greatest lengths.
func TestPushAsLong(t *testing.T) {
	rows := [][]api.Unit{nil, {nop()}, {ins(0, 'x')}, {del(0, 0)}, {ins(2, 'x'), del(2, 0), del(1, 0)}, {ins(math.MaxInt, 'x')}, {del(math.MaxInt, 0)}, {del(math.MaxInt-1, 0)}, {ins(0, 'x'), del(0, 0)}}
	for _, u := range wrong() {
		rows = append(rows, []api.Unit{u}, []api.Unit{ins(1, 'x'), u})
	}
	for _, length := range []int{0, 1, 2, 3, api.MaxText, 1 << 31, 1 << 32, math.MaxInt - 1, math.MaxInt} {
		for _, row := range rows {
			p := made(t, 5, length)
			long, e := weave.Long(row, length)
			if e != api.OK {
				wantPush(t, p, opOf(1, row...), 0, e)
				wantAll(t, p, 5, nil, length)
				continue
			}
			wantPush(t, p, opOf(1, row...), 6, api.OK)
			wantAll(t, p, 5, []api.Op{opOf(1, row...)}, length, long)
		}
	}
}

// wantFull asks that no operation can be pushed, and that those that do not fit the length at Now are refused for that.
func wantFull(t *testing.T, p *Past) {
	t.Helper()
	from, now := p.From(), p.Now()
	length, _ := p.Length(now)
	for _, o := range []api.Op{{}, opOf(9), undone(opOf(9)), opOf(9, nop()), opOf(9, ins(0, 'x')), opOf(9, ins(length, 'x'), del(length, 0))} {
		wantPush(t, p, o, 0, api.ErrFull)
	}
	wantPush(t, p, opOf(9, del(length, 0)), 0, api.ErrRange)
	wantPush(t, p, opOf(9, ins(0, 'x'), ins(length+2, 'x')), 0, api.ErrRange)
	for _, u := range wrong() {
		wantPush(t, p, opOf(9, u), 0, api.ErrArg)
		wantPush(t, p, opOf(9, del(length, 0), u), 0, api.ErrArg)
	}
	wantEnds(t, p, from, now)
	wantLength(t, p, now, length, api.OK)
	wantRefused(t, p, now+1, api.ErrRev)
}

// P10.2: behind MaxPast operations there is no room, till some are dropped.
func TestPushFull(t *testing.T) {
	for _, from := range []uint64{0, 1, 12345, api.MaxRev - 300} {
		p := pushed(t, from, 5, typing(api.MaxPast-1)...)
		wantPush(t, p, opOf(api.MaxPast), from+api.MaxPast, api.OK)
		wantFull(t, p)
		wantSince(t, p, from, append(typing(api.MaxPast-1), opOf(api.MaxPast)), api.OK)
		wantDrop(t, p, api.MaxPast, 0)
		wantFull(t, p)
		for i := range 3 {
			wantDrop(t, p, api.MaxPast-1, 1)
			wantPush(t, p, opOf(1000, del(0, 0)), from+api.MaxPast+uint64(i)+1, api.OK)
			wantFull(t, p)
		}
		wantEnds(t, p, from+3, from+api.MaxPast+3)
		wantDrop(t, p, 0, api.MaxPast)
		wantPush(t, p, opOf(1001), from+api.MaxPast+4, api.OK)
		wantAll(t, p, from+api.MaxPast+3, []api.Op{opOf(1001)}, 257, 257)
	}
}

// P10.2: at MaxRev there is no next revision, whatever is dropped.
func TestPushAtMaxRev(t *testing.T) {
	wantFull(t, made(t, api.MaxRev, 0))
	wantFull(t, made(t, api.MaxRev, 3))
	for _, many := range []int{1, 2, api.MaxPast} {
		from := api.MaxRev - uint64(many)
		p := pushed(t, from, 0, typing(many)...)
		wantFull(t, p)
		wantEnds(t, p, from, api.MaxRev)
		wantAt(t, p, api.MaxRev, typing(many)[many-1], api.OK)
		wantLength(t, p, api.MaxRev, many, api.OK)
		wantDrop(t, p, 1, many-1)
		wantFull(t, p)
		wantDrop(t, p, 0, 1)
		wantFull(t, p)
		wantAll(t, p, api.MaxRev, nil, many)
	}
}

// P10.3: Since, Length and At at From, at Now, between, below and above, written out.
func TestTold(t *testing.T) {
	a, b, c := opOf(1, ins(0, 'a'), ins(1, 'b')), undone(opOf(2)), opOf(3, del(1, 'b'))
	p := pushed(t, 100, 2, a, b, c)
	for _, x := range []struct {
		rev    uint64
		since  []api.Op
		length int
		e      api.Errno
		at     api.Op
		atErr  api.Errno
	}{
		{0, nil, 0, api.ErrGone, api.Op{}, api.ErrGone},
		{1, nil, 0, api.ErrGone, api.Op{}, api.ErrGone},
		{98, nil, 0, api.ErrGone, api.Op{}, api.ErrGone},
		{99, nil, 0, api.ErrGone, api.Op{}, api.ErrGone},
		{100, []api.Op{a, b, c}, 2, api.OK, api.Op{}, api.ErrGone},
		{101, []api.Op{b, c}, 4, api.OK, a, api.OK},
		{102, []api.Op{c}, 4, api.OK, b, api.OK},
		{103, nil, 3, api.OK, c, api.OK},
		{104, nil, 0, api.ErrRev, api.Op{}, api.ErrRev},
		{105, nil, 0, api.ErrRev, api.Op{}, api.ErrRev},
		{100 + 1<<32, nil, 0, api.ErrRev, api.Op{}, api.ErrRev},
		{api.MaxRev, nil, 0, api.ErrRev, api.Op{}, api.ErrRev},
		{api.MaxRev + 1, nil, 0, api.ErrRev, api.Op{}, api.ErrRev},
		{1<<63 + 101, nil, 0, api.ErrRev, api.Op{}, api.ErrRev},
		{math.MaxUint64, nil, 0, api.ErrRev, api.Op{}, api.ErrRev},
	} {
		wantSince(t, p, x.rev, x.since, x.e)
		wantLength(t, p, x.rev, x.length, x.e)
		wantAt(t, p, x.rev, x.at, x.atErr)
	}
	wantAll(t, p, 100, []api.Op{a, b, c}, 2, 4, 4, 3)
}

// P10.3: an operation is Undone once, no other one with it, and nothing else changes.
func TestUndo(t *testing.T) {
	ops := []api.Op{opOf(1, ins(0, 'a')), opOf(2, ins(1, 'b')), undone(opOf(3)), opOf(4, del(0, 'a'))}
	for _, order := range [][]int{{0, 1, 3}, {3, 1, 0}, {1, 3, 0}} {
		p, now := pushed(t, 7, 1, ops...), slices.Clone(ops)
		wantUndo(t, p, 10, api.ErrUndone)
		wantAll(t, p, 7, now, 1, 2, 3, 3, 2)
		for _, i := range order {
			rev := 8 + uint64(i)
			wantUndo(t, p, rev, api.OK)
			now[i].Undone = true
			wantAll(t, p, 7, now, 1, 2, 3, 3, 2)
			wantUndo(t, p, rev, api.ErrUndone)
			wantUndo(t, p, rev, api.ErrUndone)
			wantAll(t, p, 7, now, 1, 2, 3, 3, 2)
		}
		for _, rev := range []uint64{0, 5, 6, 7} {
			wantUndo(t, p, rev, api.ErrGone)
		}
		for _, rev := range []uint64{12, 13, api.MaxRev, math.MaxUint64} {
			wantUndo(t, p, rev, api.ErrRev)
		}
		wantAll(t, p, 7, now, 1, 2, 3, 3, 2)
		wantPush(t, p, opOf(5), 12, api.OK)
		wantAll(t, p, 7, append(now, opOf(5)), 1, 2, 3, 3, 2, 2)
	}
}

// P10.3: behind a Drop what is Undone stays so, and what went cannot be.
func TestUndoDropped(t *testing.T) {
	ops := typing(4)
	p := pushed(t, 7, 0, ops...)
	wantUndo(t, p, 8, api.OK)
	wantUndo(t, p, 10, api.OK)
	wantDrop(t, p, 2, 2)
	wantUndo(t, p, 8, api.ErrGone)
	wantUndo(t, p, 9, api.ErrGone)
	wantUndo(t, p, 10, api.ErrUndone)
	wantUndo(t, p, 12, api.ErrRev)
	wantAll(t, p, 9, []api.Op{undone(ops[2]), ops[3]}, 2, 3, 4)
	wantUndo(t, p, 11, api.OK)
	wantAll(t, p, 9, []api.Op{undone(ops[2]), undone(ops[3])}, 2, 3, 4)
	wantDrop(t, p, 0, 2)
	wantUndo(t, p, 11, api.ErrGone)
	wantUndo(t, p, 12, api.ErrRev)
}

// P10.4: of so many operations so many are kept, and what each call tells behind it.
func TestDrop(t *testing.T) {
	lengths := []int{3, 4, 5, 6, 7, 8}
	for many := range 6 {
		ops := typing(many)
		for _, keep := range []int{0, 1, 2, 3, 4, 5, 6, api.MaxPast, math.MaxInt, -1, -2, -5, math.MinInt} {
			p := pushed(t, 50, 3, ops...)
			gone := max(many-max(keep, 0), 0)
			for _, want := range []int{gone, 0} {
				wantDrop(t, p, keep, want)
				wantAll(t, p, 50+uint64(gone), ops[gone:], lengths[gone:many+1]...)
			}
			wantPush(t, p, opOf(9, del(0, 0)), 51+uint64(many), api.OK)
			wantAll(t, p, 50+uint64(gone), append(slices.Clone(ops[gone:]), opOf(9, del(0, 0))), append(slices.Clone(lengths[gone:many+1]), lengths[many]-1)...)
		}
	}
}

// P10.4: step by step, till none is left.
func TestDropSteps(t *testing.T) {
	p := pushed(t, 0, 0, typing(api.MaxPast)...)
	for keep := api.MaxPast; keep >= 0; keep-- {
		wantDrop(t, p, keep, min(1, api.MaxPast-keep))
		wantEnds(t, p, uint64(api.MaxPast-keep), api.MaxPast)
		wantLength(t, p, p.From(), api.MaxPast-keep, api.OK)
		wantSince(t, p, p.From(), typing(api.MaxPast)[api.MaxPast-keep:], api.OK)
	}
	wantDrop(t, p, -1, 0)
}

// P10.1: a copy has the same, and lives apart: what is done to one of both is not done to the other one.
func TestCopy(t *testing.T) {
	ops, lengths := append(typing(3), undone(opOf(4))), []int{1, 2, 3, 4, 4}
	change := []func(p *Past){
		func(p *Past) { wantPush(t, p, opOf(8, ins(0, 'y'), ins(0, 'z')), 14, api.OK) },
		func(p *Past) { wantUndo(t, p, 12, api.OK) },
		func(p *Past) { wantDrop(t, p, 2, 2) },
		func(p *Past) { wantDrop(t, p, 0, 4) },
		func(p *Past) { spoilTold(p) },
	}
	for _, do := range change {
		p := pushed(t, 9, 1, ops...)
		c := p.Copy()
		wantAll(t, c, 9, ops, lengths...)
		do(p)
		wantAll(t, c, 9, ops, lengths...)
		c = c.Copy()
		again := c.Copy()
		do(c)
		wantAll(t, again, 9, ops, lengths...)
		wantPush(t, again, opOf(5), 14, api.OK)
		wantAll(t, again, 9, append(slices.Clone(ops), opOf(5)), append(slices.Clone(lengths), 4)...)
	}
	wantAll(t, made(t, 3, 2).Copy(), 3, nil, 2)
	full := pushed(t, 3, 2, typing(api.MaxPast)...)
	wantFull(t, full.Copy())
	wantSince(t, full.Copy(), 3, typing(api.MaxPast), api.OK)
	wantFull(t, made(t, api.MaxRev, 2).Copy())
}

// P10.1: a past and its copy go on with other operations, from each number of them on; so does a copy of it as a value.
func TestCopyGoesOn(t *testing.T) {
	asValue := func(p *Past) *Past {
		c := *p
		return &c
	}
	for many := range 20 {
		for _, copied := range []func(*Past) *Past{(*Past).Copy, asValue} {
			p := pushed(t, 0, 0, typing(many)...)
			c := copied(p)
			mine, its := typing(many), typing(many)
			for i := range 5 {
				mine, its = append(mine, opOf(uint64(100+i), ins(0, 'm'))), append(its, opOf(uint64(200+i), ins(0, 'i'), ins(i, 'j')))
				wantPush(t, p, mine[many+i], uint64(many+i+1), api.OK)
				wantPush(t, c, its[many+i], uint64(many+i+1), api.OK)
			}
			wantLength(t, p, uint64(many+4), many+4, api.OK)
			wantLength(t, c, uint64(many+4), many+8, api.OK)
			another := copied(c)
			wantUndo(t, c, uint64(many+2), api.OK)
			wantUndo(t, p, uint64(many+4), api.OK)
			wantSince(t, another, 0, its, api.OK)
			mine[many+3].Undone, its[many+1].Undone = true, true
			wantSince(t, p, 0, mine, api.OK)
			wantSince(t, c, 0, its, api.OK)
			wantDrop(t, p, 3, many+2)
			wantSince(t, c, 0, its, api.OK)
			wantUndo(t, p, uint64(many+5), api.OK)
			wantSince(t, c, 0, its, api.OK)
		}
	}
}

// spoil writes over all that a list has, and into the room behind it.
func spoil[T any](list []T, x T) {
	for i := range list {
		list[i] = x
	}
	_ = append(list, x, x)
}

// spoilTold writes over all that a past tells.
func spoilTold(p *Past) {
	for rev := p.From(); rev <= p.Now(); rev++ {
		list, _ := p.Since(rev)
		for _, o := range list {
			spoil(o.Units, del(9, '!'))
		}
		spoil(list, undone(opOf(99, del(9, '!'))))
		o, _ := p.At(rev)
		spoil(o.Units, del(9, '!'))
	}
}

// P10.2, P10.3, R3: what is given stays, also the room behind it, and is not kept.
func TestGiven(t *testing.T) {
	room := []api.Unit{ins(0, 'a'), ins(1, 'b'), del(0, 'a'), nop(), ins(1, 'c'), ins(0, 'd')}
	kept := slices.Clone(room)
	for size := range len(room) {
		o := opOf(1, room[:size]...)
		p := made(t, 0, 2)
		wantPush(t, p, o, 1, api.OK)
		wantPush(t, p, o, 2, api.OK)
		wantUndo(t, p, 1, api.OK)
		spoilTold(p)
		wantDrop(t, p, 1, 1)
		spoilTold(p.Copy())
		if !slices.Equal(room, kept) || len(o.Units) != size || o.Undone {
			t.Errorf("what was given: got %v, of %v, want %v", o, room, kept)
		}
		spoil(room, del(7, '?'))
		wantAt(t, p, 2, opOf(1, kept[:size]...), api.OK)
		copy(room, kept)
		spoil(room[:size], nop())
		wantPush(t, p, opOf(1, ins(9, 'x')), 0, api.ErrRange)
		wantSince(t, p, 1, []api.Op{opOf(1, kept[:size]...)}, api.OK)
		copy(room, kept)
	}
}

// P10.3, R3: what is told is new memory: what is written there changes no past and no other answer, and what is done to the past does not change what was told.
func TestToldIsNew(t *testing.T) {
	ops := []api.Op{opOf(1, ins(0, 'a'), nop(), nop()), opOf(2, ins(1, 'b')), opOf(3), opOf(4, del(0, 'a'), ins(0, 'c'))}
	p := pushed(t, 20, 0, ops...)
	spoilTold(p)
	wantAll(t, p, 20, ops, 0, 1, 2, 2, 2)
	list, _ := p.Since(20)
	one, _ := p.At(21)
	other, _ := p.At(21)
	spoilTold(p)
	wantUndo(t, p, 21, api.OK)
	wantPush(t, p, opOf(5), 25, api.OK)
	wantDrop(t, p, 0, 5)
	if !slices.EqualFunc(list, ops, sameOp) || !sameOp(one, ops[0]) {
		t.Errorf("what was told: got %v and %v, want %v", list, one, ops)
	}
	spoil(one.Units, del(9, '!'))
	if !sameOp(other, ops[0]) || !sameOp(list[0], ops[0]) {
		t.Errorf("other answers: got %v and %v, want %v", other, list[0], ops[0])
	}
	for i := range list { // no two lists of one answer share any
		_ = append(list[i].Units, del(9, '!'), del(9, '!'), del(9, '!'))
		spoil(list[i].Units, del(9, '!'))
		if !slices.EqualFunc(list[i+1:], ops[i+1:], sameOp) {
			t.Errorf("the rest of the answer: got %v, want %v", list[i+1:], ops[i+1:])
		}
	}
}

// model is a past that forgets nothing: all operations that were pushed, the text at each revision from the first one on, and how many operations went.
type model struct {
	first uint64
	gone  int
	ops   []api.Op
	texts [][]api.Char
}

func newModel(first uint64, length int) *model {
	return &model{first: first, texts: [][]api.Char{slices.Repeat([]api.Char{'-'}, length)}}
}

func (m *model) from() uint64 { return m.first + uint64(m.gone) }

func (m *model) now() uint64 { return m.first + uint64(len(m.ops)) }

func (m *model) copy() *model {
	return &model{m.first, m.gone, slices.Clone(m.ops), slices.Clone(m.texts)}
}

func (m *model) push(o api.Op) (uint64, api.Errno) {
	text, e := weave.Apply(m.texts[len(m.ops)], o.Units)
	if e == api.OK && (m.now() >= api.MaxRev || len(m.ops)-m.gone >= api.MaxPast) {
		e = api.ErrFull
	}
	if e != api.OK {
		return 0, e
	}
	m.ops, m.texts = append(m.ops, o), append(m.texts, text)
	return m.now(), api.OK
}

func (m *model) undo(rev uint64) api.Errno {
	if e := m.wrong(rev, m.from()+1); e != api.OK {
		return e
	}
	o := &m.ops[rev-m.first-1]
	if o.Undone {
		return api.ErrUndone
	}
	o.Undone = true
	return api.OK
}

func (m *model) drop(keep int) int {
	went := 0
	for m.gone < len(m.ops) && len(m.ops)-m.gone > keep {
		m.gone++
		went++
	}
	return went
}

// wrong is the error of a revision, of which the least one that is there is given.
func (m *model) wrong(rev, least uint64) api.Errno {
	switch {
	case rev > m.now():
		return api.ErrRev
	case rev < least:
		return api.ErrGone
	}
	return api.OK
}

// wantAs asks a past for all that its model tells of these revisions.
func wantAs(t *testing.T, p *Past, m *model, revs ...uint64) {
	t.Helper()
	wantEnds(t, p, m.from(), m.now())
	for _, rev := range revs {
		e := m.wrong(rev, m.from())
		if e == api.OK {
			wantSince(t, p, rev, m.ops[rev-m.first:], e)
			wantLength(t, p, rev, len(m.texts[rev-m.first]), e)
		} else {
			wantSince(t, p, rev, nil, e)
			wantLength(t, p, rev, 0, e)
		}
		if e = m.wrong(rev, m.from()+1); e == api.OK {
			wantAt(t, p, rev, m.ops[rev-m.first-1], e)
		} else {
			wantAt(t, p, rev, api.Op{}, e)
		}
	}
}

// steps are things to do to a past and to its model alike; each tells what the past answered and what the model did.
func steps() []func(p *Past, m *model) (uint64, uint64) {
	push := func(units ...api.Unit) func(*Past, *model) (uint64, uint64) {
		return func(p *Past, m *model) (uint64, uint64) {
			o := opOf(m.now()*10+uint64(len(units)), units...)
			rev, e := p.Push(o)
			want, f := m.push(o)
			return rev*100 + uint64(e), want*100 + uint64(f)
		}
	}
	undo := func(rev func(m *model) uint64) func(*Past, *model) (uint64, uint64) {
		return func(p *Past, m *model) (uint64, uint64) {
			n := rev(m)
			return uint64(p.Undo(n)), uint64(m.undo(n))
		}
	}
	drop := func(keep int) func(*Past, *model) (uint64, uint64) {
		return func(p *Past, m *model) (uint64, uint64) { return uint64(p.Drop(keep)), uint64(m.drop(keep)) }
	}
	return []func(p *Past, m *model) (uint64, uint64){
		push(ins(0, 'a')), push(), push(del(0, 'b')), push(nop(), ins(1, 'c'), ins(1, 'd')), push(ins(0, 'e'), unitOf(7, 0, 0)),
		undo(func(m *model) uint64 { return m.now() }),
		undo(func(m *model) uint64 { return m.from() + 1 }),
		undo(func(m *model) uint64 { return m.from() }),
		drop(0), drop(1), drop(2), drop(-1),
	}
}

// goThrough does each of these steps to a copy of a past, and then so many further ones.
func goThrough(t *testing.T, p *Past, m *model, most int) {
	t.Helper()
	wantAs(t, p, m, 0, m.first-1, m.first, m.first+1, m.first+2, m.first+3, m.first+4, m.first+5, math.MaxUint64)
	if most == 0 {
		return
	}
	for i, step := range steps() {
		p, m := p.Copy(), m.copy()
		if got, want := step(p, m); got != want {
			t.Errorf("step %d: got %d, want %d", i, got, want)
		}
		goThrough(t, p, m, most-1)
	}
}

// P10.1 to P10.5: all that can be done in a few steps, held against the model.
func TestSteps(t *testing.T) {
	for _, from := range []uint64{1, 5, api.MaxRev - 2} {
		goThrough(t, made(t, from, 1), newModel(from, 1), 4)
	}
}

// chance tells numbers below a limit, always the same row of them.
func chance() func(below int) int {
	state := uint64(1)
	return func(below int) int {
		state = state*6364136223846793005 + 1442695040888963407
		return int(state >> 33 % uint64(below))
	}
}

// someOp is an operation that mostly fits a text of this length, and mostly lets it be about as long.
func someOp(n uint64, length int, below func(int) int) api.Op {
	var row []api.Unit
	for range below(5) {
		switch k := below(20); {
		case k == 0:
			row = append(row, ins(length+below(2), 'z'))
		case k == 1:
			row = append(row, nop())
		case k < 11 && length > 10:
			row, length = append(row, del(below(length), api.Char('a'+below(3)))), length-1
		default:
			row, length = append(row, ins(below(length+1), api.Char('a'+below(26)))), length+1
		}
	}
	return api.Op{Id: idOf(uint32(below(3)), n), Units: row, Undone: below(10) == 0}
}

// P10.1 to P10.5: a long row of steps, held against the model; the past is full at times, and empty at others.
func TestManySteps(t *testing.T) {
	below := chance()
	p, m := made(t, 1000, 20), newModel(1000, 20)
	full := 0
	for n := range 6000 {
		before := p.Now()
		switch k := below(400); {
		case k == 0:
			keep := below(5)*100 - 50
			wantDrop(t, p, keep, m.drop(keep))
		case k == 1:
			p, m = p.Copy(), m.copy()
		case k < 50:
			rev := m.from() + uint64(below(len(m.ops)-m.gone+3)) - 1
			wantUndo(t, p, rev, m.undo(rev))
		default:
			o := someOp(uint64(n), len(m.texts[len(m.ops)]), below)
			want, e := m.push(o)
			wantPush(t, p, o, want, e)
			if e == api.ErrFull {
				full++
			}
		}
		if p.Now() < before || p.Now()-p.From() != uint64(p.Len()) {
			t.Errorf("step %d: Now %d, From %d, Len %d, behind Now %d", n, p.Now(), p.From(), p.Len(), before)
		}
		wantAs(t, p, m, m.from()-1, m.from(), m.from()+1, m.from()+uint64(below(len(m.ops)-m.gone+1)), m.now(), m.now()+1)
	}
	if full == 0 {
		t.Error("the past was never full")
	}
}

// P10.5: no operation but its Undone changes, as long as it is there, and nothing is Undone but what Undo named; Now never goes back.
func TestOperationsStay(t *testing.T) {
	below := chance()
	p := made(t, 0, 12)
	was, ends := map[uint64]api.Op{}, p.Now()
	for n := range 1500 {
		named := uint64(0)
		switch below(9) {
		case 0:
			p.Drop(below(60))
		case 1:
			if rev := p.From() + uint64(below(p.Len()+2)); p.Undo(rev) == api.OK {
				named = rev
			}
		default:
			length, _ := p.Length(p.Now())
			o := someOp(uint64(n), length, below)
			if rev, e := p.Push(o); e == api.OK {
				was[rev] = o
			}
		}
		if p.Now() < ends || p.Now()-p.From() != uint64(p.Len()) {
			t.Errorf("step %d: From %d, Now %d, Len %d, behind Now %d", n, p.From(), p.Now(), p.Len(), ends)
		}
		ends = p.Now()
		for rev := p.From() + 1; rev <= p.Now(); rev++ {
			o := was[rev]
			o.Undone = o.Undone || rev == named
			wantAt(t, p, rev, o, api.OK)
			was[rev] = o
		}
	}
}

// P10.6: of two pasts to which the same was pushed, and one of which dropped, the other one tells all that the lesser one tells.
func TestTwins(t *testing.T) {
	for keep := -1; keep <= 12; keep++ {
		for when := range 12 {
			below := chance()
			whole, lesser := made(t, 30, 8), made(t, 30, 8)
			for n := range 12 {
				if n == when {
					lesser.Drop(keep)
				}
				length, _ := whole.Length(whole.Now())
				o := someOp(uint64(n), length, below)
				rev, e := whole.Push(o)
				wantPush(t, lesser, o, rev, e)
				if rev = lesser.From() + 1; n%3 == 2 && rev <= lesser.Now() {
					wantUndo(t, lesser, rev, whole.Undo(rev))
				}
				wantTwin(t, whole, lesser, "kept "+strconv.Itoa(keep)+" ahead of push "+strconv.Itoa(when))
			}
		}
	}
}

// wantTwin asks whole for all that lesser tells.
func wantTwin(t *testing.T, whole, lesser *Past, what string) {
	t.Helper()
	if whole.Now() != lesser.Now() {
		t.Errorf("%s: Now: got %d, want %d", what, whole.Now(), lesser.Now())
	}
	told := 0
	for rev := uint64(25); rev < 45; rev++ {
		if list, e := lesser.Since(rev); e != api.ErrGone {
			wantSince(t, whole, rev, list, e)
		}
		if length, e := lesser.Length(rev); e != api.ErrGone {
			wantLength(t, whole, rev, length, e)
		}
		if o, e := lesser.At(rev); e != api.ErrGone {
			wantAt(t, whole, rev, o, e)
			told++
		}
	}
	if told < lesser.Len() {
		t.Errorf("%s: %d of %d operations were told", what, told, lesser.Len())
	}
}

// P10.7: the length at a revision is that at From, and what the operations to there grow.
func TestLengths(t *testing.T) {
	below := chance()
	p := made(t, 60, 15)
	length := 15
	for n := range 200 {
		if n == 100 {
			p.Drop(37)
		}
		o := someOp(uint64(n), length, below)
		if _, e := p.Push(o); e != api.OK {
			continue
		}
		length += edit.Grows(o.Units)
		grown, e := p.Length(p.From())
		if e != api.OK {
			t.Fatalf("Length(%d): got error %d", p.From(), e)
		}
		list, _ := p.Since(p.From())
		for i, o := range list {
			grown += edit.Grows(o.Units)
			wantLength(t, p, p.From()+uint64(i)+1, grown, api.OK)
		}
		wantLength(t, p, p.Now(), length, api.OK)
	}
	if p.Len() < 100 {
		t.Errorf("only %d operations were pushed", p.Len())
	}
}

// R1: long operations, in time that goes with their length.
func TestLong(t *testing.T) {
	const long = 20000
	var typed, erased []api.Unit
	for i := range long {
		typed, erased = append(typed, ins(i, 'x')), append(erased, del(0, 0))
	}
	p := made(t, 0, 1)
	for i := range 5 {
		wantPush(t, p, opOf(1, typed...), uint64(2*i+1), api.OK)
		wantPush(t, p, opOf(2, erased...), uint64(2*i+2), api.OK)
	}
	wantLength(t, p, 1, long+1, api.OK)
	wantLength(t, p, 9, long+1, api.OK)
	wantLength(t, p, 10, 1, api.OK)
	wantSince(t, p, 9, []api.Op{opOf(2, erased...)}, api.OK)
}

// R7: two pasts to which the same is done answer alike, whatever is asked of them in between.
func TestAlike(t *testing.T) {
	below := chance()
	a, b := made(t, 4, 10), made(t, 4, 10)
	for n := range 300 {
		length, _ := a.Length(a.Now())
		o := someOp(uint64(n), length, below)
		rev, e := a.Push(o)
		wantPush(t, b, o, rev, e)
		rev = a.From() + uint64(below(a.Len()+2))
		wantUndo(t, b, rev, a.Undo(rev))
		if n%50 == 49 {
			wantDrop(t, b, 20, a.Drop(20))
		}
		spoilTold(b)
		b.Since(math.MaxUint64)
		b.Copy().Drop(0)
		made(t, 4, 10).Push(opOf(1))
		list, _ := a.Since(a.From())
		wantSince(t, b, a.From(), list, api.OK)
		wantEnds(t, b, a.From(), a.Now())
	}
}
