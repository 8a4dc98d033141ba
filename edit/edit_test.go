package edit

import (
	"math"
	"slices"
	"strings"
	"testing"

	"copybook/api"
	"copybook/unit"
	"copybook/weave"
)

// one, other and two are Ids: two clients', of the first one two requests'.
func one() api.Id { return api.Id{Client: 1, Req: 7} }

func other() api.Id { return api.Id{Client: 1, Req: 8} }

func two() api.Id { return api.Id{Client: 2, Req: 7} }

func unitOf(kind, pos int, c api.Char, id api.Id) api.Unit {
	return api.Unit{Kind: kind, Pos: pos, Char: c, Id: id}
}

func nop(id api.Id) api.Unit { return unitOf(api.Nop, 0, 0, id) }

func ins(pos int, c api.Char, id api.Id) api.Unit { return unitOf(api.Ins, pos, c, id) }

func del(pos int, id api.Id) api.Unit { return unitOf(api.Del, pos, 0, id) }

func runOf(kind, pos int, id api.Id, chars ...api.Char) Run {
	return Run{Kind: kind, Pos: pos, Id: id, Chars: chars}
}

func chars(s string) []api.Char {
	var out []api.Char
	for _, r := range s {
		out = append(out, api.Char(r))
	}
	return out
}

// typed is what types chars at a place, by the chapter's words.
func typed(pos int, l []api.Char, id api.Id) []api.Unit {
	var out []api.Unit
	for _, c := range l {
		out = append(out, ins(pos, c, id))
		pos++
	}
	return out
}

// erased is what erases so many at a place.
func erased(pos, n int, id api.Id) []api.Unit { return slices.Repeat([]api.Unit{del(pos, id)}, n) }

// mayNot are code points that may not be.
func mayNot() []api.Char {
	return []api.Char{-1, math.MinInt32, 0xd800, 0xdbff, 0xdc00, 0xdfff, 0x110000, math.MaxInt32}
}

// edges are code points that may be, at the limits of those that may not.
func edges() []api.Char { return []api.Char{0, 1, 'x', 0xd7ff, 0xe000, 0x10fffe, 0x10ffff} }

// all are rows of up to so many of these units.
func all(units []api.Unit, most int) [][]api.Unit {
	out := [][]api.Unit{nil}
	for from := 0; most > 0; most-- {
		upto := len(out)
		for _, row := range out[from:upto] {
			for _, u := range units {
				out = append(out, append(slices.Clip(row), u))
			}
		}
		from = upto
	}
	return out
}

// beside are units that follow each other, and such that differ from these in one thing.
func beside() []api.Unit {
	return []api.Unit{
		ins(0, 'a', one()), ins(1, 'b', one()), ins(2, 'c', one()), ins(1, 'd', two()), ins(1, 'e', other()),
		del(0, one()), del(1, one()), unitOf(api.Del, 0, 'f', one()), del(0, two()), del(0, other()),
		nop(one()), nop(two()),
		unitOf(3, 1, 'g', one()), unitOf(3, 2, 'h', one()), unitOf(-1, 1, 'i', one()),
	}
}

// wrongUnits are units that may not be, but no Nops.
func wrongUnits() []api.Unit {
	var out []api.Unit
	for _, kind := range []int{api.Ins, api.Del} {
		for _, c := range mayNot() {
			out = append(out, unitOf(kind, 1, c, one()))
		}
		out = append(out, unitOf(kind, -1, 'x', one()), unitOf(kind, math.MinInt, 'x', one()))
	}
	for _, kind := range []int{math.MinInt, -2, -1, 3, 4, math.MaxInt, api.Ins + 256, api.Del + 1<<32} {
		out = append(out, unitOf(kind, 0, 0, one()), unitOf(kind, 1, 'x', two()), unitOf(kind, -1, -1, one()))
	}
	return out
}

// fitting are all rows of up to so many units, Nops among them, that fit a text of this length.
func fitting(long, most int) [][]api.Unit {
	out := [][]api.Unit{nil}
	if most == 0 {
		return out
	}
	firsts := []api.Unit{nop(one())}
	for pos := range long + 1 {
		firsts = append(firsts, ins(pos, api.Char('A'+most), one()))
	}
	for pos := range long {
		firsts = append(firsts, del(pos, two()))
	}
	for _, u := range firsts {
		for _, rest := range fitting(long+unit.Grows(u), most-1) {
			out = append(out, append([]api.Unit{u}, rest...))
		}
	}
	return out
}

func wantRow(t *testing.T, what string, got, want []api.Unit) {
	t.Helper()
	if !slices.Equal(got, want) {
		t.Errorf("%s: got %v, want %v", what, got, want)
	}
}

func sameRun(a, b Run) bool {
	return a.Kind == b.Kind && a.Pos == b.Pos && a.Id == b.Id && slices.Equal(a.Chars, b.Chars)
}

func wantRuns(t *testing.T, what string, got, want []Run) {
	t.Helper()
	if !slices.EqualFunc(got, want, sameRun) {
		t.Errorf("%s: got %v, want %v", what, got, want)
	}
}

// wantMade asks for a row, or for an error and nothing beside it.
func wantMade(t *testing.T, what string, got []api.Unit, e api.Errno, want []api.Unit, err api.Errno) {
	t.Helper()
	if err != api.OK {
		want = nil
	}
	if e != err || !slices.Equal(got, want) {
		t.Errorf("%s: got %v, error %d, want %v, error %d", what, got, e, want, err)
	}
}

// P8.1, P8.2: the chapter's examples.
func TestExamples(t *testing.T) {
	come, e := Type(2, chars("ab"), one())
	wantMade(t, "Type", come, e, []api.Unit{ins(2, 'a', one()), ins(3, 'b', one())}, api.OK)
	gone, e := Erase(2, 2, one())
	wantMade(t, "Erase", gone, e, []api.Unit{del(2, one()), del(2, one())}, api.OK)
	both := slices.Concat(come, gone)
	wantRuns(t, "Runs", Runs(both), []Run{runOf(api.Ins, 2, one(), 'a', 'b'), runOf(api.Del, 2, one(), 0, 0)})
}

// P8.1: what types and what erases, from no unit to as many as may be, from place 0 to the greatest one.
func TestTypeAndErase(t *testing.T) {
	for _, id := range []api.Id{{}, one(), {Client: math.MaxUint32, Req: math.MaxUint64}} {
		for _, n := range []int{0, 1, 2, 3, api.MaxUnits - 1, api.MaxUnits} {
			l := slices.Repeat(edges(), n)[:n]
			for _, pos := range []int{0, 1, 2, 4096, math.MaxInt32, 1 << 32, math.MaxInt - max(n-1, 0)} {
				row, e := Type(pos, l, id)
				wantMade(t, "Type", row, e, typed(pos, l, id), api.OK)
				row, e = Erase(pos, n, id)
				wantMade(t, "Erase", row, e, erased(pos, n, id), api.OK)
				row, e = Replace(pos, n, l[n/2:], id)
				if n+n-n/2 <= api.MaxUnits {
					wantMade(t, "Replace", row, e, append(erased(pos, n, id), typed(pos, l[n/2:], id)...), api.OK)
				}
			}
		}
	}
	row, e := Erase(math.MaxInt, api.MaxUnits, one())
	wantMade(t, "at the greatest place", row, e, erased(math.MaxInt, api.MaxUnits, one()), api.OK)
}

// P8.1: each code point that may be, at the limits, is typed; each that may not be is ErrText, wherever it stands.
func TestText(t *testing.T) {
	for _, c := range edges() {
		row, e := Type(3, []api.Char{c}, one())
		wantMade(t, "one that may be", row, e, []api.Unit{ins(3, c, one())}, api.OK)
	}
	for _, c := range mayNot() {
		for _, n := range []int{1, 2, 3, api.MaxUnits} {
			for _, at := range []int{0, n / 2, n - 1} {
				l := slices.Repeat([]api.Char{'x'}, n)
				l[at] = c
				row, e := Type(0, l, one())
				wantMade(t, "one that may not be", row, e, nil, api.ErrText)
				row, e = Replace(0, 0, l, one())
				wantMade(t, "one that may not be, in Replace", row, e, nil, api.ErrText)
			}
		}
	}
}

// errorOf is what is wrong with a place, a length, and chars of which one may not be: of several things the one that the chapter names first.
func errorOf(pos, n int, bad bool) api.Errno {
	switch {
	case pos < 0, n < 0:
		return api.ErrArg
	case n > 256:
		return api.ErrLong
	case bad:
		return api.ErrText
	}
	return api.OK
}

// texts are so many chars, also with one that may not be, the last one.
func texts(n int) [][]api.Char {
	good := slices.Repeat([]api.Char{'x'}, n)
	if n == 0 {
		return [][]api.Char{nil, good}
	}
	bad := slices.Clone(good)
	bad[n-1] = 0x110000
	return [][]api.Char{good, bad}
}

// P8.1: places and lengths from both sides of 0 and of MaxUnits, and chars that may not be: the error that is named first counts.
func TestErrors(t *testing.T) {
	id := two()
	for _, pos := range []int{math.MinInt, -2, -1, 0, 1, 300} {
		for _, n := range []int{math.MinInt, -257, -2, -1, 0, 1, 255, 256, 257, 258, 300, 1 << 32, math.MaxInt} {
			row, e := Erase(pos, n, id)
			err := errorOf(pos, n, false)
			wantMade(t, "Erase", row, e, erased(pos, min(max(n, 0), 256), id), err)
		}
		for _, n := range []int{0, 1, 255, 256, 257, 258, 300, 5000} {
			for _, l := range texts(n) {
				given := slices.Clone(l)
				row, e := Type(pos, l, id)
				wantMade(t, "Type", row, e, typed(pos, l, id), errorOf(pos, n, slices.Contains(l, 0x110000)))
				if !slices.Equal(l, given) {
					t.Errorf("Type: %v was given, and is %v", given, l)
				}
			}
		}
	}
}

// P8.1: Replace's errors: Erase's, then Type's, then that both together are too many; else both parts.
func TestReplace(t *testing.T) {
	id := one()
	for _, pos := range []int{math.MinInt, -1, 0, 1, 300} {
		for _, n := range []int{math.MinInt, -1, 0, 1, 2, 127, 128, 129, 255, 256, 257, math.MaxInt} {
			for _, more := range []int{0, 1, 2, 127, 128, 129, 254, 255, 256, 257, 600} {
				for _, l := range texts(more) {
					err := errorOf(pos, n, false)
					if err == api.OK {
						err = errorOf(pos, more, slices.Contains(l, 0x110000))
					}
					if err == api.OK && n+more > 256 {
						err = api.ErrLong
					}
					var want []api.Unit
					if err == api.OK {
						want = append(erased(pos, n, id), typed(pos, l, id)...)
					}
					row, e := Replace(pos, n, l, id)
					wantMade(t, "Replace", row, e, want, err)
				}
			}
		}
	}
}

// isRun is the chapter's word of a run.
func isRun(row []api.Unit) bool {
	for i, u := range row {
		if i == 0 {
			continue
		}
		ahead := row[i-1]
		stands := u.Pos == ahead.Pos
		if u.Kind == api.Ins {
			stands = u.Pos-1 == ahead.Pos
		}
		if !stands || u.Kind == api.Nop || u.Kind != ahead.Kind || u.Id != ahead.Id {
			return false
		}
	}
	return true
}

// fewest is how many runs a row has at the least, of all the ways to part it.
func fewest(row []api.Unit) int {
	least := make([]int, len(row)+1)
	for end := range len(row) {
		least[end+1] = math.MaxInt
		for from := range end + 1 {
			if isRun(row[from : end+1]) {
				least[end+1] = min(least[end+1], least[from]+1)
			}
		}
	}
	return least[len(row)]
}

// wantParts asks that runs are a row's, as few as can be, and in order.
func wantParts(t *testing.T, row []api.Unit) {
	t.Helper()
	given := slices.Clone(row)
	runs := Runs(row)
	rest := row
	for _, r := range runs {
		n := len(r.Chars)
		if n == 0 || n > len(rest) || !isRun(rest[:n]) {
			t.Fatalf("Runs(%v): got %v", row, runs)
		}
		want := Run{Kind: rest[0].Kind, Pos: rest[0].Pos, Id: rest[0].Id}
		for _, u := range rest[:n] {
			want.Chars = append(want.Chars, u.Char)
		}
		if !sameRun(r, want) {
			t.Fatalf("Runs(%v): got %v, want %v among them", row, runs, want)
		}
		rest = rest[n:]
	}
	if len(rest) != 0 || len(runs) != fewest(row) {
		t.Fatalf("Runs(%v): got %v, want %d runs of all units", row, runs, fewest(row))
	}
	wantRow(t, "the row that was given", row, given)
}

// P8.2: runs, written out: of each Kind, and of units beside each other that do not follow.
func TestRunsWritten(t *testing.T) {
	a, b := one(), two()
	for _, x := range []struct {
		row  []api.Unit
		want []Run
	}{
		{nil, nil},
		{[]api.Unit{}, nil},
		{[]api.Unit{ins(0, 0, api.Id{})}, []Run{runOf(api.Ins, 0, api.Id{}, 0)}},
		{[]api.Unit{ins(4, 'x', a), ins(5, 'y', a), ins(6, 'x', a)}, []Run{runOf(api.Ins, 4, a, 'x', 'y', 'x')}},
		{[]api.Unit{ins(4, 'x', a), ins(4, 'y', a)}, []Run{runOf(api.Ins, 4, a, 'x'), runOf(api.Ins, 4, a, 'y')}},
		{[]api.Unit{ins(4, 'x', a), ins(6, 'y', a)}, []Run{runOf(api.Ins, 4, a, 'x'), runOf(api.Ins, 6, a, 'y')}},
		{[]api.Unit{ins(4, 'x', a), ins(3, 'y', a)}, []Run{runOf(api.Ins, 4, a, 'x'), runOf(api.Ins, 3, a, 'y')}},
		// What counts is the unit ahead, not the run's first one.
		{[]api.Unit{ins(4, 'x', a), ins(5, 'y', a), ins(5, 'z', a)}, []Run{runOf(api.Ins, 4, a, 'x', 'y'), runOf(api.Ins, 5, a, 'z')}},
		{[]api.Unit{ins(4, 'x', a), ins(5, 'y', b), ins(6, 'z', a)}, []Run{runOf(api.Ins, 4, a, 'x'), runOf(api.Ins, 5, b, 'y'), runOf(api.Ins, 6, a, 'z')}},
		{[]api.Unit{ins(4, 'x', a), ins(5, 'y', other())}, []Run{runOf(api.Ins, 4, a, 'x'), runOf(api.Ins, 5, other(), 'y')}},
		{[]api.Unit{del(4, a), unitOf(api.Del, 4, 'y', a), del(4, a)}, []Run{runOf(api.Del, 4, a, 0, 'y', 0)}},
		{[]api.Unit{del(4, a), del(5, a), del(4, a), del(3, a)}, []Run{runOf(api.Del, 4, a, 0), runOf(api.Del, 5, a, 0), runOf(api.Del, 4, a, 0), runOf(api.Del, 3, a, 0)}},
		{[]api.Unit{del(4, a), del(4, b), del(4, b)}, []Run{runOf(api.Del, 4, a, 0), runOf(api.Del, 4, b, 0, 0)}},
		{[]api.Unit{ins(4, 'x', a), del(5, a), del(4, a), ins(4, 'y', a), ins(5, 'z', a)}, []Run{runOf(api.Ins, 4, a, 'x'), runOf(api.Del, 5, a, 0), runOf(api.Del, 4, a, 0), runOf(api.Ins, 4, a, 'y', 'z')}},
		{[]api.Unit{nop(a), nop(a), nop(b)}, []Run{runOf(api.Nop, 0, a, 0), runOf(api.Nop, 0, a, 0), runOf(api.Nop, 0, b, 0)}},
		// A Nop parts units that would follow each other.
		{[]api.Unit{ins(0, 'x', a), nop(a), ins(1, 'y', a)}, []Run{runOf(api.Ins, 0, a, 'x'), runOf(api.Nop, 0, a, 0), runOf(api.Ins, 1, a, 'y')}},
		{[]api.Unit{del(0, a), nop(a), del(0, a)}, []Run{runOf(api.Del, 0, a, 0), runOf(api.Nop, 0, a, 0), runOf(api.Del, 0, a, 0)}},
		// A Nop that may not be is told as it is.
		{[]api.Unit{unitOf(api.Nop, 3, 'x', a), unitOf(api.Nop, 3, 'x', a)}, []Run{runOf(api.Nop, 3, a, 'x'), runOf(api.Nop, 3, a, 'x')}},
		{[]api.Unit{unitOf(api.Nop, 3, 'x', a), unitOf(api.Nop, 4, 'y', a)}, []Run{runOf(api.Nop, 3, a, 'x'), runOf(api.Nop, 4, a, 'y')}},
		// Any other Kind's units stand at one place.
		{[]api.Unit{unitOf(3, 4, 'x', a), unitOf(3, 4, 'y', a), unitOf(3, 5, 'z', a)}, []Run{runOf(3, 4, a, 'x', 'y'), runOf(3, 5, a, 'z')}},
		{[]api.Unit{unitOf(-1, -4, 'x', a), unitOf(-1, -4, 'y', a), unitOf(3, -4, 'z', a), unitOf(3, -4, 'z', b)}, []Run{runOf(-1, -4, a, 'x', 'y'), runOf(3, -4, a, 'z'), runOf(3, -4, b, 'z')}},
		{[]api.Unit{unitOf(math.MaxInt, 4, 'x', a), unitOf(math.MaxInt, 4, 'y', a), unitOf(math.MinInt, 4, 'x', a)}, []Run{runOf(math.MaxInt, 4, a, 'x', 'y'), runOf(math.MinInt, 4, a, 'x')}},
		{[]api.Unit{unitOf(api.Ins+256, 4, 'x', a), unitOf(api.Ins+256, 5, 'y', a)}, []Run{runOf(api.Ins+256, 4, a, 'x'), runOf(api.Ins+256, 5, a, 'y')}},
		// Also at places and with Chars that may not be.
		{[]api.Unit{ins(-2, -1, a), ins(-1, 0xd800, a), ins(0, 'x', a)}, []Run{runOf(api.Ins, -2, a, -1, 0xd800, 'x')}},
		{[]api.Unit{ins(math.MaxInt-1, 'x', a), ins(math.MaxInt, 'y', a)}, []Run{runOf(api.Ins, math.MaxInt-1, a, 'x', 'y')}},
		{[]api.Unit{ins(1<<32-1, 'x', a), ins(1<<32, 'y', a), ins(1, 'z', a)}, []Run{runOf(api.Ins, 1<<32-1, a, 'x', 'y'), runOf(api.Ins, 1, a, 'z')}},
	} {
		wantRuns(t, "Runs", Runs(x.row), x.want)
		wantParts(t, x.row)
	}
}

// P8.2, P8.4: runs of all short rows are as few as can be, and lead back to the row.
func TestRunsShort(t *testing.T) {
	for _, row := range all(beside(), 4) {
		wantParts(t, row)
		wantBack(t, row)
	}
	for _, row := range all(wrongUnits(), 2) {
		wantParts(t, row)
		wantBack(t, row)
	}
}

// wantBack asks that the runs of a row lead back to it, that none follows the one ahead, and that they are their row's runs.
func wantBack(t *testing.T, row []api.Unit) {
	t.Helper()
	runs := Runs(row)
	if back := Row(runs); !slices.Equal(back, row) {
		t.Fatalf("Row(Runs(%v)): got %v", row, back)
	}
	for i := range len(runs) - 1 {
		if isRun(Row(runs[i : i+2])) {
			t.Fatalf("Runs(%v): %v follows %v", row, runs[i+1], runs[i])
		}
	}
	wantRuns(t, "Runs, once more", Runs(Row(runs)), runs)
}

// P8.2, P8.4: long rows, of one run and of many.
func TestRunsLong(t *testing.T) {
	const long = 30000
	id := one()
	l := slices.Repeat(chars("abcdefg"), long/7)
	rows := [][]api.Unit{
		typed(5, l, id), erased(5, long, id), slices.Repeat([]api.Unit{nop(id)}, long),
		slices.Repeat([]api.Unit{ins(5, 'x', id)}, long), slices.Repeat(typed(5, l[:300], id), 100), slices.Repeat(beside(), 2000),
	}
	many := []int{1, 1, long, long, 100, 15 * 2000}
	for i, row := range rows {
		runs := Runs(row)
		if i < 5 && len(runs) != many[i] {
			t.Errorf("row %d: got %d runs, want %d", i, len(runs), many[i])
		}
		wantBack(t, row)
	}
	wantRuns(t, "typed", Runs(rows[0]), []Run{{Kind: api.Ins, Pos: 5, Id: id, Chars: l}})
	wantRuns(t, "erased", Runs(rows[1]), []Run{{Kind: api.Del, Pos: 5, Id: id, Chars: make([]api.Char, long)}})
}

// P8.4: what is typed, erased and replaced, there and back.
func TestBackOfMade(t *testing.T) {
	for _, n := range []int{0, 1, 2, 128} {
		for _, pos := range []int{0, 1, 77, math.MaxInt - 128} {
			l := slices.Repeat([]api.Char{'x'}, n)
			row, _ := Replace(pos, n, l, one())
			var want []Run
			if n > 0 {
				want = []Run{runOf(api.Del, pos, one(), make([]api.Char, n)...), runOf(api.Ins, pos, one(), l...)}
			}
			wantRuns(t, "Replace", Runs(row), want)
			wantBack(t, row)
		}
	}
}

// P8.2: rows of runs: with no Chars, with many, of Nops, and of runs that follow each other.
func TestRow(t *testing.T) {
	a, b := one(), two()
	for _, x := range []struct {
		runs []Run
		want []api.Unit
	}{
		{nil, nil},
		{[]Run{}, nil},
		{[]Run{{}}, nil},
		{[]Run{runOf(api.Ins, 4, a), runOf(api.Del, 4, a), runOf(api.Nop, 0, a), runOf(7, 4, a)}, nil},
		{[]Run{runOf(api.Ins, 4, a), runOf(api.Ins, 4, a, 'x'), runOf(api.Del, 2, b)}, []api.Unit{ins(4, 'x', a)}},
		{[]Run{runOf(api.Ins, 4, a, 'x', 'y', 'z')}, []api.Unit{ins(4, 'x', a), ins(5, 'y', a), ins(6, 'z', a)}},
		{[]Run{runOf(api.Del, 4, b, 0, 'y', 0)}, []api.Unit{del(4, b), unitOf(api.Del, 4, 'y', b), del(4, b)}},
		{[]Run{runOf(api.Nop, 0, a, 0, 0, 0)}, []api.Unit{nop(a), nop(a), nop(a)}},
		{[]Run{runOf(api.Nop, 9, b, 'x', -1)}, []api.Unit{nop(b), nop(b)}},
		{[]Run{runOf(api.Nop, -9, b, 'x'), runOf(api.Nop, 1, a, 'x')}, []api.Unit{nop(b), nop(a)}},
		{[]Run{runOf(3, 4, a, 'x', 'y')}, []api.Unit{unitOf(3, 4, 'x', a), unitOf(3, 4, 'y', a)}},
		{[]Run{runOf(-1, -4, a, -1, 0xd800)}, []api.Unit{unitOf(-1, -4, -1, a), unitOf(-1, -4, 0xd800, a)}},
		{[]Run{runOf(math.MinInt, math.MinInt, b, 'x'), runOf(math.MaxInt, math.MaxInt, b, 'x', 'x')}, []api.Unit{unitOf(math.MinInt, math.MinInt, 'x', b), unitOf(math.MaxInt, math.MaxInt, 'x', b), unitOf(math.MaxInt, math.MaxInt, 'x', b)}},
		{[]Run{runOf(api.Ins, -1, a, -1, 0x110000)}, []api.Unit{ins(-1, -1, a), ins(0, 0x110000, a)}},
		{[]Run{runOf(api.Del, -1, a, -1, 0x110000)}, []api.Unit{unitOf(api.Del, -1, -1, a), unitOf(api.Del, -1, 0x110000, a)}},
		{[]Run{runOf(api.Ins, 4, a, 'x', 'y'), runOf(api.Ins, 6, a, 'z'), runOf(api.Ins, 6, b, 'v', 'w')}, []api.Unit{ins(4, 'x', a), ins(5, 'y', a), ins(6, 'z', a), ins(6, 'v', b), ins(7, 'w', b)}},
		{[]Run{runOf(api.Ins, math.MaxInt-1, a, 'x', 'y')}, []api.Unit{ins(math.MaxInt-1, 'x', a), ins(math.MaxInt, 'y', a)}},
	} {
		wantRow(t, "Row", Row(x.runs), x.want)
	}
	l := slices.Repeat(chars("abcdefg"), 3000)
	wantRow(t, "many Chars", Row([]Run{runOf(api.Ins, 3, a, l...), runOf(api.Del, 3, b, make([]api.Char, 9000)...)}), append(typed(3, l, a), erased(3, 9000, b)...))
}

// P8.3: a row without its Nops, whatever else they have, all else as it is and in order; and how much longer the text is behind it.
func TestCleanAndGrows(t *testing.T) {
	a, b := one(), two()
	x, y := ins(9, 'x', a), unitOf(api.Del, 3, 'y', b)
	for _, c := range []struct {
		row, clean []api.Unit
		grows      int
	}{
		{nil, nil, 0},
		{[]api.Unit{}, nil, 0},
		{[]api.Unit{nop(a)}, nil, 0},
		{[]api.Unit{nop(a), nop(b), nop(a)}, nil, 0},
		{[]api.Unit{unitOf(api.Nop, 1, 0, a), unitOf(api.Nop, 0, 'x', a), unitOf(api.Nop, -1, -1, a)}, nil, 0},
		{[]api.Unit{x}, []api.Unit{x}, 1},
		{[]api.Unit{y}, []api.Unit{y}, -1},
		{[]api.Unit{x, x, x}, []api.Unit{x, x, x}, 3},
		{[]api.Unit{y, y, y}, []api.Unit{y, y, y}, -3},
		{[]api.Unit{x, nop(a), y}, []api.Unit{x, y}, 0},
		{[]api.Unit{nop(a), y, nop(b), nop(b), x, x, nop(a)}, []api.Unit{y, x, x}, 1},
		{[]api.Unit{y, nop(a), y, x, nop(b)}, []api.Unit{y, y, x}, -1},
	} {
		given := slices.Clone(c.row)
		wantRow(t, "Clean", Clean(c.row), c.clean)
		if got := Grows(c.row); got != c.grows {
			t.Errorf("Grows(%v): got %d, want %d", c.row, got, c.grows)
		}
		wantRow(t, "the row that was given", c.row, given)
	}
	// Other Kinds are no Nops, and grow nothing; an Ins and a Del are what they are also where they may not be.
	for _, u := range wrongUnits() {
		want := 0
		switch u.Kind {
		case api.Ins:
			want = 1
		case api.Del:
			want = -1
		}
		row := []api.Unit{u, nop(a), u, x}
		wantRow(t, "Clean", Clean(row), []api.Unit{u, u, x})
		if got := Grows(row); got != want+want+1 {
			t.Errorf("Grows(%v): got %d", row, got)
		}
	}
	if got := Grows(append(typed(0, make([]api.Char, 30000), a), erased(0, 20000, b)...)); got != 10000 {
		t.Errorf("Grows of a long row: got %d", got)
	}
}

// P8.3: rows that are the same, and rows that differ in one unit's single field, in how many units they have, or in their order.
func TestSame(t *testing.T) {
	a := one()
	ask := func(x, y []api.Unit, want bool) {
		t.Helper()
		if Same(x, y) != want || Same(y, x) != want {
			t.Errorf("Same(%v, %v): got %t and %t, want %t", x, y, Same(x, y), Same(y, x), want)
		}
	}
	ask(nil, nil, true)
	ask(nil, []api.Unit{}, true)
	ask(nil, []api.Unit{{}}, false)
	for _, row := range [][]api.Unit{{{}}, {del(4, a)}, {ins(4, 'x', a)}, {ins(4, 'x', a), del(2, a), nop(a), unitOf(-3, -2, -1, a)}} {
		ask(row, row, true)
		ask(row, slices.Clone(row), true)
		ask(row, nil, false)
		ask(row, row[1:], false)
		ask(row, append(slices.Clip(row), nop(a)), false)
		ask(row, append([]api.Unit{nop(a)}, row...), false)
		for i, u := range row {
			for _, v := range []api.Unit{
				unitOf(u.Kind+1, u.Pos, u.Char, u.Id), unitOf(u.Kind-1, u.Pos, u.Char, u.Id), unitOf(u.Kind+256, u.Pos, u.Char, u.Id),
				unitOf(u.Kind, u.Pos+1, u.Char, u.Id), unitOf(u.Kind, u.Pos+1<<32, u.Char, u.Id),
				unitOf(u.Kind, u.Pos, u.Char+1, u.Id), unitOf(u.Kind, u.Pos, u.Char+1<<16, u.Id),
				unitOf(u.Kind, u.Pos, u.Char, api.Id{Client: u.Id.Client + 1, Req: u.Id.Req}),
				unitOf(u.Kind, u.Pos, u.Char, api.Id{Client: u.Id.Client, Req: u.Id.Req + 1}),
				unitOf(u.Kind, u.Pos, u.Char, api.Id{Client: u.Id.Client, Req: u.Id.Req + 1<<63}),
			} {
				differs := slices.Clone(row)
				differs[i] = v
				ask(row, differs, false)
			}
		}
	}
	ask([]api.Unit{ins(1, 'x', a), nop(a)}, []api.Unit{nop(a), ins(1, 'x', a)}, false)
	ask([]api.Unit{nop(a), ins(1, 'x', a)}, []api.Unit{ins(1, 'x', a)}, false)
}

// behind is the text that rows leave of one, asked of weave.
func behind(t *testing.T, text []api.Char, rows ...[]api.Unit) []api.Char {
	t.Helper()
	out, e := weave.Apply(text, slices.Concat(rows...))
	if e != api.OK {
		t.Fatalf("%v on %v: error %d", rows, text, e)
	}
	return out
}

// P8.1, P8.5: what is typed stands at its place, what is erased is gone, and to replace is both; what is typed and then erased leaves the text.
func TestOnTexts(t *testing.T) {
	id := two()
	for size := range 6 {
		text := chars("abcde"[:size])
		for pos := range size + 1 {
			for more := range 4 {
				l := chars("xyz"[:more])
				come, _ := Type(pos, l, id)
				if got, want := behind(t, text, come), slices.Concat(text[:pos], l, text[pos:]); !slices.Equal(got, want) {
					t.Errorf("Type(%d, %v) on %v: got %v", pos, l, text, got)
				}
				back, _ := Erase(pos, more, id)
				if got := behind(t, text, come, back); !slices.Equal(got, text) {
					t.Errorf("%v typed at %d of %v, and erased: got %v", l, pos, text, got)
				}
				for n := range size - pos + 1 {
					gone, _ := Erase(pos, n, id)
					both, _ := Replace(pos, n, l, id)
					wantRow(t, "Replace", both, slices.Concat(gone, come))
					if got, want := behind(t, text, both), slices.Concat(text[:pos], l, text[pos+n:]); !slices.Equal(got, want) {
						t.Errorf("Replace(%d, %d, %v) on %v: got %v", pos, n, l, text, got)
					}
				}
			}
		}
	}
}

// P8.5: as many as may be, on a long text.
func TestOnLongTexts(t *testing.T) {
	text, l := chars(strings.Repeat("abcd", 1024)), slices.Repeat([]api.Char{'x'}, api.MaxUnits)
	for _, pos := range []int{0, 1, 2048, 4095, 4096} {
		come, _ := Type(pos, l, one())
		back, _ := Erase(pos, len(l), one())
		if got := behind(t, text, come, back); !slices.Equal(got, text) {
			t.Errorf("typed at %d, and erased: the text is not left", pos)
		}
	}
}

// P8.3, P8.6: a cleaned row does what the row does: to texts, to the rows that come behind it, and in how much it grows.
func TestCleanDoesTheSame(t *testing.T) {
	text := chars("mn")
	later := []api.Unit{ins(1, 'x', other()), del(0, other()), ins(2, 'y', other())}
	for _, row := range fitting(len(text), 4) {
		clean := Clean(row)
		if slices.ContainsFunc(clean, func(u api.Unit) bool { return u.Kind == api.Nop }) {
			t.Fatalf("Clean(%v): got %v", row, clean)
		}
		want := behind(t, text, row)
		if got := behind(t, text, clean); !slices.Equal(got, want) {
			t.Fatalf("%v on %v: %v is left, cleaned %v", row, text, want, got)
		}
		if Grows(row) != len(want)-len(text) || Grows(clean) != Grows(row) {
			t.Fatalf("Grows(%v): got %d, cleaned %d, want %d", row, Grows(row), Grows(clean), len(want)-len(text))
		}
		wantRow(t, "a row behind it", weave.Past(later, clean), weave.Past(later, row))
		wantRow(t, "it behind a row", Clean(weave.Past(clean, later)), Clean(weave.Past(row, later)))
		// A text that it does not fit, it does not fit cleaned.
		_, e := weave.Apply(text[:1], row)
		if _, f := weave.Apply(text[:1], clean); e != f {
			t.Fatalf("%v on a shorter text: error %d, cleaned %d", row, e, f)
		}
	}
}

// spoil writes over all that a list has, and into the room behind it.
func spoil[T any](list []T, x T) {
	for i := range list {
		list[i] = x
	}
	_ = append(list, x, x)
}

// P8.1, R3: what was typed is not kept, and what is told is new memory.
func TestMemoryOfMade(t *testing.T) {
	room := chars("abcdef")
	for size := range 5 {
		l := room[:size]
		first, _ := Type(1, l, one())
		second, _ := Type(1, l, one())
		gone, _ := Erase(1, size, one())
		again, _ := Erase(1, size, one())
		both, _ := Replace(1, size, l, one())
		another, _ := Replace(1, size, l, one())
		come, out := typed(1, l, one()), erased(1, size, one())
		for _, row := range [][]api.Unit{first, gone, both} {
			spoil(row, ins(9, '!', two()))
		}
		if !slices.Equal(room, chars("abcdef")) {
			t.Errorf("the chars that were given: got %v", room)
		}
		spoil(l, '?')
		wantRow(t, "Type", second, come)
		wantRow(t, "Erase", again, out)
		wantRow(t, "Replace", another, slices.Concat(out, come))
		copy(room, chars("abcdef"))
	}
}

// P8.2, P8.3, R3: the row that is given stays, also the room behind it, and what is told is new memory.
func TestMemoryOfRows(t *testing.T) {
	room := []api.Unit{ins(1, 'x', one()), ins(2, 'y', one()), nop(one()), del(4, two()), del(4, two()), nop(two()), nop(two())}
	kept := slices.Clone(room)
	for size := range 6 {
		row := room[:size]
		clean, own, runs := Clean(row), Own(row), Runs(row)
		keptClean, keptRuns := slices.Clone(clean), slices.Clone(runs)
		for i := range keptRuns {
			keptRuns[i].Chars = slices.Clone(runs[i].Chars)
		}
		wantRow(t, "Own", own, row)
		spoil(clean, ins(9, '!', one()))
		spoil(own, ins(9, '?', one()))
		for i := range runs {
			spoil(runs[i].Chars, '!')
			wantRuns(t, "the other runs", runs[i+1:], keptRuns[i+1:])
		}
		wantRow(t, "the row that was given", room, kept)
		clean, own, runs = Clean(row), Own(row), Runs(row)
		spoil(row, del(9, one()))
		wantRow(t, "Clean", clean, keptClean)
		wantRow(t, "Own", own, kept[:size])
		wantRuns(t, "Runs", runs, keptRuns)
		copy(room, kept)
	}
	for _, row := range all(beside(), 2) {
		wantRow(t, "Own", Own(row), row)
	}
	for _, u := range wrongUnits() {
		wantRow(t, "Own", Own([]api.Unit{u, u}), []api.Unit{u, u})
	}
}

// P8.2, R3: the runs that are given stay, and what Row tells is new memory.
func TestMemoryOfRuns(t *testing.T) {
	given := func() []Run {
		return []Run{runOf(api.Ins, 1, one(), 'x', 'y'), runOf(api.Nop, 3, two(), 'z'), runOf(api.Del, 1, two(), 0, 'v'), runOf(3, 1, one(), 'w')}
	}
	runs := given()
	row, again := Row(runs), Row(runs)
	want := slices.Clone(row)
	spoil(row, ins(9, '!', two()))
	wantRuns(t, "the runs that were given", runs, given())
	for i := range runs {
		spoil(runs[i].Chars, '?')
	}
	spoil(runs, Run{})
	wantRow(t, "Row", again, want)
}
