package weave

import (
	"math"
	"slices"
	"strings"
	"testing"

	"copybook/api"
	"copybook/unit"
	"copybook/wire"
)

func chars(s string) []api.Char {
	var out []api.Char
	for _, r := range s {
		out = append(out, api.Char(r))
	}
	return out
}

func idOf(client uint32, req uint64) api.Id { return api.Id{Client: client, Req: req} }

func unitOf(kind, pos int, c api.Char, id api.Id) api.Unit {
	return api.Unit{Kind: kind, Pos: pos, Char: c, Id: id}
}

func nop(id api.Id) api.Unit { return unitOf(api.Nop, 0, 0, id) }

func ins(pos int, c api.Char, id api.Id) api.Unit { return unitOf(api.Ins, pos, c, id) }

func del(pos int, c api.Char, id api.Id) api.Unit { return unitOf(api.Del, pos, c, id) }

// one and two are two clients' Ids; one is ahead.
func one() api.Id { return idOf(1, 7) }

func two() api.Id { return idOf(2, 3) }

// pairs are two Ids of which the first is ahead, or the second, by the Client or by the Req.
func pairs() [][2]api.Id {
	return [][2]api.Id{{one(), two()}, {two(), one()}, {idOf(5, 1), idOf(5, 2)}, {idOf(5, 2), idOf(5, 1)}}
}

// rows are all rows of up to most units that fit a text. Of an Ins the Char tells its place in the row, counted from brings on, so that none stands in a text twice; of a Del it is 0, and of a row's last unit also what goes.
func rows(text []api.Char, most int, brings api.Char, id api.Id) [][]api.Unit {
	out := [][]api.Unit{nil}
	if most == 0 {
		return out
	}
	firsts := []api.Unit{nop(id)}
	for pos := range len(text) + 1 {
		firsts = append(firsts, ins(pos, brings, id))
	}
	for pos := range text {
		firsts = append(firsts, del(pos, 0, id))
	}
	for _, u := range firsts {
		for _, rest := range rows(plain(text, u), most-1, brings+1, id) {
			out = append(out, append([]api.Unit{u}, rest...))
		}
	}
	for pos, c := range text {
		out = append(out, []api.Unit{del(pos, c, id)})
	}
	return out
}

// plain is the text behind units that fit it, told by what stands ahead and what behind.
func plain(text []api.Char, row ...api.Unit) []api.Char {
	for _, u := range row {
		ahead, rest := slices.Clone(text[:u.Pos]), text[u.Pos:]
		switch u.Kind {
		case api.Ins:
			ahead = append(ahead, u.Char)
		case api.Del:
			rest = rest[1:]
		}
		text = append(ahead, rest...)
	}
	return text
}

// wrong are units that may not be.
func wrong() []api.Unit {
	id := one()
	out := []api.Unit{unitOf(api.Nop, 1, 0, id), unitOf(api.Nop, -1, 0, id), unitOf(api.Nop, 0, 1, id)}
	for _, kind := range []int{api.Ins, api.Del} {
		out = append(out, unitOf(kind, -1, 'x', id), unitOf(kind, math.MinInt, 'x', id))
		for _, c := range []api.Char{-1, math.MinInt32, 0xd800, 0xdfff, 0x110000, math.MaxInt32} {
			out = append(out, unitOf(kind, 0, c, id))
		}
	}
	for _, kind := range []int{-1, 3, math.MinInt, math.MaxInt, api.Ins + 256, api.Del + 1<<32} {
		out = append(out, unitOf(kind, 0, 0, id), unitOf(kind, 1, 'x', id))
	}
	return out
}

// mixed are rows of all kinds, also of units that may not be, and that fit no short text.
func mixed() [][]api.Unit {
	a, b := one(), two()
	out := [][]api.Unit{
		nil,
		{ins(0, 'x', a), del(9, 0, b), nop(a), ins(3, 'y', b)},
		{ins(1, 'x', a), ins(1, 'x', a), del(1, 'x', a), del(0, 0, a)},
		{del(2, 0, b), del(2, 0, b), ins(2, 'z', b), nop(b)},
		{ins(math.MaxInt, 'x', a), del(math.MaxInt, 0, b), ins(0, 'x', b)},
		{ins(0, 0x10ffff, api.Id{}), del(0, 0, api.Id{}), del(0, 0, idOf(math.MaxUint32, math.MaxUint64))},
	}
	bad := wrong()
	for i := range bad {
		out = append(out, []api.Unit{ins(1, 'x', b), bad[i], del(0, 0, b), bad[(i*5+3)%len(bad)]})
	}
	return out
}

func wantChars(t *testing.T, what string, got, want []api.Char) {
	t.Helper()
	if !slices.Equal(got, want) {
		t.Errorf("%s: got %q, want %q", what, got, want)
	}
}

func wantRow(t *testing.T, what string, got, want []api.Unit) {
	t.Helper()
	if !slices.Equal(got, want) {
		t.Errorf("%s: got %v, want %v", what, got, want)
	}
}

func applied(t *testing.T, text []api.Char, row ...[]api.Unit) []api.Char {
	t.Helper()
	out, e := Apply(text, slices.Concat(row...))
	if e != api.OK {
		t.Fatalf("Apply(%q, %v): got error %d", text, row, e)
	}
	return out
}

// P7.1 to P7.3: the chapter's examples, and DOC.md's.
func TestExamples(t *testing.T) {
	text, a, b := chars("m"), []api.Unit{ins(0, 'x', one())}, []api.Unit{ins(0, 'y', two())}
	x, y := Both(a, b)
	wantRow(t, "a behind b", x, []api.Unit{ins(0, 'x', one())})
	wantRow(t, "b behind a", y, []api.Unit{ins(1, 'y', two())})
	wantChars(t, "b, and a behind it", applied(t, text, b, x), chars("xym"))
	wantChars(t, "a, and b behind it", applied(t, text, a, y), chars("xym"))
	a = []api.Unit{del(0, 0, one())}
	x, y = Both(a, b)
	wantRow(t, "Del behind b", x, []api.Unit{del(1, 0, one())})
	wantRow(t, "b behind Del", y, b)
	wantChars(t, "b, and Del behind it", applied(t, text, b, x), chars("y"))
	if n, e := Long([]api.Unit{ins(1, 'x', one())}, 0); n != 0 || e != api.ErrRange {
		t.Errorf("Long: got %d, error %d", n, e)
	}
	if got := Place(1, b); got != 2 {
		t.Errorf("Place: got %d", got)
	}
	typed := []api.Unit{ins(0, 'a', idOf(0, 1)), ins(1, 'b', idOf(0, 1))}
	wantChars(t, "of two at one place", applied(t, nil, typed, Past([]api.Unit{ins(0, 'x', one())}, typed)), chars("abx"))
}

// P7.1: all short rows of short texts, and the length that each leaves.
func TestApplyShort(t *testing.T) {
	for size := range 4 {
		text := chars("mno"[:size])
		for _, row := range rows(text, 3, 'a', one()) {
			want := plain(text, row...)
			wantChars(t, "Apply", applied(t, text, row), want)
			if n, e := Long(row, size); n != len(want) || e != api.OK {
				t.Errorf("Long(%v, %d): got %d, error %d", row, size, n, e)
			}
		}
	}
}

// P7.1: what a Del's Char says is not asked, and neither is whether a text's code points may be.
func TestApplyAnyText(t *testing.T) {
	id := one()
	odd := []api.Char{-1, 0, 0xd800, 0x110000, math.MaxInt32, math.MinInt32}
	row := []api.Unit{del(1, 'z', id), ins(5, 'x', id), nop(id), ins(0, 0, id), del(3, 0x10ffff, id)}
	wantChars(t, "odd", applied(t, odd, row), []api.Char{0, -1, 0xd800, math.MaxInt32, math.MinInt32, 'x'})
	wantChars(t, "no text, no row", applied(t, nil, nil), nil)
	wantChars(t, "no row", applied(t, chars("ab"), nil), chars("ab"))
	wantChars(t, "Nops", applied(t, chars("ab"), []api.Unit{nop(id), nop(two())}), chars("ab"))
}

// P7.1, R1: long rows on long texts, in time that goes with both.
func TestApplyLong(t *testing.T) {
	const long = 30000
	id := one()
	var typed, erased []api.Unit
	for i := range long {
		typed = append(typed, ins(i, api.Char('a'+i%7), id))
		erased = append(erased, del(0, 0, id))
	}
	want := chars(strings.Repeat("abcdefg", long/7+1)[:long])
	wantChars(t, "typed", applied(t, nil, typed), want)
	wantChars(t, "typed behind a text", applied(t, []api.Char{'z'}, typed), append(want, 'z'))
	wantChars(t, "erased", applied(t, want, erased), nil)
	wantChars(t, "both", applied(t, chars("z"), typed, erased), chars("z"))
}

// P7.1: rows that do not fit: at the first unit, at a later one, and only behind one that is done.
func TestRange(t *testing.T) {
	id := one()
	for _, x := range []struct {
		row  []api.Unit
		text string
		want string // "!" of one that does not fit
	}{
		{[]api.Unit{ins(4, 'x', id)}, "abc", "!"},
		{[]api.Unit{ins(3, 'x', id)}, "abc", "abcx"},
		{[]api.Unit{del(3, 0, id)}, "abc", "!"},
		{[]api.Unit{del(2, 0, id)}, "abc", "ab"},
		{[]api.Unit{del(0, 0, id)}, "", "!"},
		{[]api.Unit{ins(1, 'x', id)}, "", "!"},
		{[]api.Unit{ins(math.MaxInt, 'x', id)}, "abc", "!"},
		{[]api.Unit{del(math.MaxInt, 0, id)}, "abc", "!"},
		{[]api.Unit{ins(1<<32, 'x', id)}, "abc", "!"},
		{[]api.Unit{del(1<<32, 0, id)}, "abc", "!"},
		{[]api.Unit{nop(id), ins(0, 'x', id), del(9, 0, id)}, "abc", "!"},
		{[]api.Unit{nop(id), nop(id), ins(4, 'x', id)}, "abc", "!"},
		{[]api.Unit{ins(9, 'x', id), nop(id)}, "abc", "!"},
		// They fit the text as it was, but not what the ones ahead leave.
		{[]api.Unit{del(0, 0, id), ins(3, 'x', id)}, "abc", "!"},
		{[]api.Unit{del(0, 0, id), del(2, 0, id)}, "abc", "!"},
		{[]api.Unit{del(0, 0, id), nop(id), del(0, 0, id)}, "a", "!"},
		// They fit only what the ones ahead leave.
		{[]api.Unit{ins(0, 'x', id), ins(4, 'y', id)}, "abc", "xabcy"},
		{[]api.Unit{ins(0, 'x', id), del(3, 0, id)}, "abc", "xab"},
		{[]api.Unit{ins(0, 'x', id), del(0, 0, id), del(0, 0, id)}, "", "!"},
		{[]api.Unit{del(0, 0, id), ins(2, 'x', id), ins(3, 'y', id)}, "abc", "bcxy"},
		// They would fit the other way round.
		{[]api.Unit{ins(4, 'y', id), ins(0, 'x', id)}, "abc", "!"},
		{[]api.Unit{del(3, 0, id), ins(0, 'x', id)}, "abc", "!"},
	} {
		text, want, long := chars(x.text), chars(x.want), len(x.want)
		e := api.OK
		if x.want == "!" {
			want, long, e = nil, 0, api.ErrRange
		}
		wantAnswers(t, x.row, text, want, e)
		if n, f := Long(x.row, len(text)); n != long || f != e {
			t.Errorf("Long(%v, %d): got %d, error %d", x.row, len(text), n, f)
		}
	}
}

// wantAnswers asks that Apply and Long tell this text, or this error and nothing beside it.
func wantAnswers(t *testing.T, row []api.Unit, text, want []api.Char, err api.Errno) {
	t.Helper()
	keptRow, keptText := slices.Clone(row), slices.Clone(text)
	got, e := Apply(text, row)
	n, f := Long(row, len(text))
	if e != err || f != err || !slices.Equal(got, want) || n != len(want) {
		t.Errorf("Apply(%q, %v): got %q, error %d; Long: got %d, error %d; want %q, error %d", text, row, got, e, n, f, want, err)
	}
	wantRow(t, "the row that was given", row, keptRow)
	wantChars(t, "the text that was given", text, keptText)
}

// P7.1: a unit that may not be is ErrArg, wherever it stands, also where one ahead or behind does not fit.
func TestMayNot(t *testing.T) {
	id := two()
	for _, bad := range wrong() {
		for _, row := range [][]api.Unit{
			{bad},
			{bad, bad},
			{bad, ins(0, 'x', id)},
			{ins(0, 'x', id), bad},
			{ins(0, 'x', id), nop(id), del(0, 0, id), bad},
			{bad, ins(9, 'x', id)},
			{ins(9, 'x', id), bad},
			{del(9, 0, id), nop(id), bad},
			{del(0, 0, id), del(2, 0, id), bad, ins(0, 'x', id)},
		} {
			wantAnswers(t, row, chars("abc"), nil, api.ErrArg)
			wantAnswers(t, row, nil, nil, api.ErrArg)
			for _, n := range []int{-1, math.MinInt, 0, math.MaxInt} {
				if long, e := Long(row, n); long != 0 || e != api.ErrArg {
					t.Errorf("Long(%v, %d): got %d, error %d", row, n, long, e)
				}
			}
		}
	}
}

// P7.1: lengths below 0, and the greatest ones.
func TestLengths(t *testing.T) {
	id := one()
	for _, x := range []struct {
		row     []api.Unit
		n, want int
		e       api.Errno
	}{
		{nil, -1, 0, api.ErrArg},
		{nil, math.MinInt, 0, api.ErrArg},
		{[]api.Unit{nop(id)}, -1, 0, api.ErrArg},
		{[]api.Unit{ins(0, 'x', id)}, -1, 0, api.ErrArg},
		{[]api.Unit{ins(9, 'x', id)}, -1, 0, api.ErrArg},
		{[]api.Unit{del(9, 0, id)}, math.MinInt, 0, api.ErrArg},
		{nil, 0, 0, api.OK},
		{[]api.Unit{nop(id)}, 0, 0, api.OK},
		{[]api.Unit{ins(0, 'x', id)}, 0, 1, api.OK},
		{nil, 7, 7, api.OK},
		{nil, math.MaxInt, math.MaxInt, api.OK},
		{[]api.Unit{nop(id), nop(id)}, math.MaxInt, math.MaxInt, api.OK},
		{[]api.Unit{del(math.MaxInt-1, 0, id)}, math.MaxInt, math.MaxInt - 1, api.OK},
		{[]api.Unit{del(math.MaxInt, 0, id)}, math.MaxInt, 0, api.ErrRange},
		{[]api.Unit{del(0, 0, id), ins(math.MaxInt, 'x', id)}, math.MaxInt, 0, api.ErrRange},
		{[]api.Unit{del(0, 0, id), ins(math.MaxInt-1, 'x', id)}, math.MaxInt, math.MaxInt, api.OK},
		{[]api.Unit{ins(math.MaxInt-1, 'x', id)}, math.MaxInt - 1, math.MaxInt, api.OK},
		{[]api.Unit{ins(1<<32, 'x', id), ins(1<<32+1, 'x', id)}, 1 << 32, 1<<32 + 2, api.OK},
	} {
		if n, e := Long(x.row, x.n); n != x.want || e != x.e {
			t.Errorf("Long(%v, %d): got %d, error %d, want %d, error %d", x.row, x.n, n, e, x.want, x.e)
		}
	}
}

// grid is the chapter's grid, cell by cell: down goes a's unit, across what b's unit has become.
func grid(a, b []api.Unit) (x, y []api.Unit) {
	across := slices.Clone(b)
	for _, down := range a {
		next := make([]api.Unit, len(b))
		for i := range b {
			was := down
			down = unit.Over(was, across[i])
			next[i] = unit.Over(across[i], was)
		}
		x = append(x, down)
		across = next
	}
	return x, across
}

func wantGrid(t *testing.T, a, b []api.Unit) {
	t.Helper()
	keptA, keptB := slices.Clone(a), slices.Clone(b)
	wantX, wantY := grid(a, b)
	x, y := Both(a, b)
	if !slices.Equal(x, wantX) || !slices.Equal(y, wantY) {
		t.Fatalf("Both(%v, %v): got %v and %v, want %v and %v", a, b, x, y, wantX, wantY)
	}
	if got := Past(a, b); !slices.Equal(got, wantX) {
		t.Fatalf("Past(%v, %v): got %v, want %v", a, b, got, wantX)
	}
	if !slices.Equal(a, keptA) || !slices.Equal(b, keptB) {
		t.Fatalf("Both changed what was given: %v and %v, of %v and %v", a, b, keptA, keptB)
	}
}

// P7.2: both rows of the grid: of all short rows on short texts, of Ids ahead, behind and the same.
func TestBothShort(t *testing.T) {
	for _, ids := range append(pairs(), [2]api.Id{one(), one()}) {
		for _, size := range []int{0, 2} {
			text := chars("mn"[:size])
			for _, a := range rows(text, 2, 'a', ids[0]) {
				for _, b := range rows(text, 2, 'A', ids[1]) {
					wantGrid(t, a, b)
				}
			}
		}
	}
}

// P7.2, R1: rows that fit no short text, of units that may not be, and at the greatest places.
func TestBothMixed(t *testing.T) {
	for _, a := range mixed() {
		for _, b := range mixed() {
			wantGrid(t, a, b)
		}
	}
}

// P7.2: rows of typing and erasing, written out, and empty ones.
func TestBothWritten(t *testing.T) {
	a, b := one(), two()
	for _, x := range []struct{ a, b, x, y []api.Unit }{
		{nil, nil, nil, nil},
		{nil, []api.Unit{ins(3, 'x', b)}, nil, []api.Unit{ins(3, 'x', b)}},
		{[]api.Unit{del(3, 0, a)}, nil, []api.Unit{del(3, 0, a)}, nil},
		{
			[]api.Unit{ins(1, 'x', a), ins(2, 'y', a)}, []api.Unit{ins(1, 'v', b), ins(2, 'w', b)},
			[]api.Unit{ins(1, 'x', a), ins(2, 'y', a)}, []api.Unit{ins(3, 'v', b), ins(4, 'w', b)},
		},
		{
			[]api.Unit{ins(1, 'x', b), ins(2, 'y', b)}, []api.Unit{ins(1, 'v', a), ins(2, 'w', a)},
			[]api.Unit{ins(3, 'x', b), ins(4, 'y', b)}, []api.Unit{ins(1, 'v', a), ins(2, 'w', a)},
		},
		{
			[]api.Unit{del(1, 'o', a), del(1, 'p', a)}, []api.Unit{del(0, 0, b), del(0, 0, b)},
			[]api.Unit{nop(a), del(0, 'p', a)}, []api.Unit{del(0, 0, b), nop(b)},
		},
		{
			[]api.Unit{ins(2, 'x', a)}, []api.Unit{ins(0, 'v', b), del(1, 0, b), del(1, 0, b), del(1, 0, b)},
			[]api.Unit{ins(1, 'x', a)}, []api.Unit{ins(0, 'v', b), del(1, 0, b), del(1, 0, b), del(2, 0, b)},
		},
		// What one's own unit brought and took out again leaves the other one where it was.
		{
			[]api.Unit{ins(0, 'x', a), del(0, 0, a)}, []api.Unit{del(4, 0, b), nop(b)},
			[]api.Unit{ins(0, 'x', a), del(0, 0, a)}, []api.Unit{del(4, 0, b), nop(b)},
		},
	} {
		gotX, gotY := Both(x.a, x.b)
		wantRow(t, "a behind b", gotX, x.x)
		wantRow(t, "b behind a", gotY, x.y)
		wantRow(t, "Past", Past(x.a, x.b), x.x)
	}
}

// P7.2: Past over several rows is one behind the other; over none it is the row.
func TestPastRows(t *testing.T) {
	text := chars("m")
	third := idOf(3, 1)
	for _, a := range rows(text, 2, 'a', two()) {
		wantRow(t, "over none", Past(a), a)
		wantRow(t, "over no rows", Past(a, [][]api.Unit{}...), a)
		wantRow(t, "over empty ones", Past(a, nil, []api.Unit{}, nil), a)
		for _, b := range rows(text, 2, 'A', one()) {
			want, _ := grid(a, b)
			wantRow(t, "over one", Past(a, b), want)
			wantRow(t, "over one, among empty ones", Past(a, nil, b, nil), want)
			for _, c := range [][]api.Unit{{ins(0, 'Z', third)}, {ins(1, 'Z', third), nop(third)}, {del(0, 0, third)}} {
				want, _ := grid(want, c)
				wantRow(t, "over two", Past(a, b, c), want)
				wantRow(t, "over two, one by one", Past(Past(a, b), c), want)
			}
		}
	}
	if got := Past(nil, []api.Unit{ins(0, 'x', one())}, nil); len(got) != 0 {
		t.Errorf("Past of no row: got %v", got)
	}
	if got := Past(nil); len(got) != 0 {
		t.Errorf("Past of no row over none: got %v", got)
	}
}

// kept is what must be left of both rows' doing: what stood and neither took out, and what each brought and did not take out itself.
func kept(text []api.Char, a, b []api.Unit) []api.Char {
	behindA, behindB := plain(text, a...), plain(text, b...)
	var out []api.Char
	for _, c := range slices.Concat(behindA, behindB) {
		stood := slices.Contains(text, c)
		if stood && slices.Contains(behindA, c) && slices.Contains(behindB, c) || !stood {
			out = append(out, c)
		}
	}
	slices.Sort(out)
	return slices.Compact(out)
}

// P7.4: each row behind the other fits there, and both ways lead to one text, that has what both leave.
func TestSquare(t *testing.T) {
	for _, ids := range pairs() {
		for size := range 3 {
			text := chars("mn"[:size])
			for _, a := range rows(text, 3, 'a', ids[0]) {
				for _, b := range rows(text, 2, 'A', ids[1]) {
					wantSquare(t, text, a, b)
				}
			}
		}
	}
}

func wantSquare(t *testing.T, text []api.Char, a, b []api.Unit) {
	t.Helper()
	x, y := Both(a, b)
	p, e := Apply(text, slices.Concat(a, y))
	q, f := Apply(text, slices.Concat(b, x))
	if e != api.OK || f != api.OK || !slices.Equal(p, q) {
		t.Fatalf("%v and %v on %q: %q, error %d, and %q, error %d", a, b, text, p, e, q, f)
	}
	wantOrder(t, p, plain(text, a...))
	wantOrder(t, p, plain(text, b...))
	slices.Sort(p)
	if want := kept(text, a, b); !slices.Equal(p, want) {
		t.Fatalf("%v and %v on %q: %q is left, want %q", a, b, text, p, want)
	}
}

// wantOrder asks that what is left of one way's text stands in its order.
func wantOrder(t *testing.T, text, was []api.Char) {
	t.Helper()
	last := -1
	for _, c := range text {
		if at := slices.Index(was, c); at >= 0 {
			if at < last {
				t.Fatalf("%q does not stand in %q in its order", text, was)
			}
			last = at
		}
	}
}

// P7.4: rows whose units have several Ids of their own, none of them one of the other row's.
func TestSquareManyIds(t *testing.T) {
	text := chars("mnopq")
	a := []api.Unit{ins(2, 'a', idOf(1, 1)), ins(2, 'b', idOf(3, 1)), del(4, 0, idOf(5, 1)), ins(5, 'c', idOf(1, 9)), nop(idOf(7, 1)), del(0, 0, idOf(1, 1))}
	b := []api.Unit{ins(2, 'A', idOf(2, 1)), ins(3, 'B', idOf(0, 1)), del(4, 0, idOf(5, 2)), ins(2, 'C', idOf(4, 1)), del(0, 0, idOf(2, 1)), ins(6, 'D', idOf(1, 2))}
	for i := range len(a) + 1 {
		for j := range len(b) + 1 {
			wantSquare(t, text, a[:i], b[:j])
			wantSquare(t, text, b[:j], a[:i])
		}
	}
}

// P7.4: long rows.
func TestSquareLong(t *testing.T) {
	text := chars(strings.Repeat("mnopq", 40))
	row := func(step int, id api.Id) []api.Unit {
		var out []api.Unit
		long := len(text)
		for i := range 256 {
			pos := (i*step + 3) % long
			if i%3 == 1 {
				out, long = append(out, del(pos, 0, id)), long-1
			} else {
				out, long = append(out, ins(pos, api.Char('A'+i), id)), long+1
			}
		}
		return out
	}
	a, b := row(7, one()), row(31, two())
	x, y := Both(a, b)
	wantChars(t, "both ways", applied(t, text, a, y), applied(t, text, b, x))
	wantGrid(t, a, b)
}

// P7.5: Past over rows is Past over them as one row.
func TestPastAsOne(t *testing.T) {
	text := chars("mn")
	for _, a := range rows(text, 2, 'a', two()) {
		for _, b := range rows(text, 3, 'A', one()) {
			want := Past(a, b)
			for i := range len(b) + 1 {
				wantRow(t, "over two parts", Past(a, b[:i], b[i:]), want)
			}
			var parts [][]api.Unit
			for _, u := range b {
				parts = append(parts, []api.Unit{u})
			}
			wantRow(t, "over each unit", Past(a, parts...), want)
		}
	}
	for _, a := range mixed() {
		wantRow(t, "over mixed rows", Past(a, mixed()...), Past(a, slices.Concat(mixed()...)))
	}
}

// P7.5: Both of rows that are parted is Both of the parts, one behind the other.
func TestBothOfParts(t *testing.T) {
	ask := func(a, b []api.Unit) {
		x, y := Both(a, b)
		for i := range len(a) + 1 {
			first, across := Both(a[:i], b)
			second, across := Both(a[i:], across)
			if !slices.Equal(slices.Concat(first, second), x) || !slices.Equal(across, y) {
				t.Fatalf("Both(%v, %v): parted at %d of the first", a, b, i)
			}
		}
		for i := range len(b) + 1 {
			down, first := Both(a, b[:i])
			down, second := Both(down, b[i:])
			if !slices.Equal(slices.Concat(first, second), y) || !slices.Equal(down, x) {
				t.Fatalf("Both(%v, %v): parted at %d of the second", a, b, i)
			}
		}
	}
	text := chars("mn")
	for _, a := range rows(text, 2, 'a', two()) {
		for _, b := range rows(text, 3, 'A', one()) {
			ask(a, b)
		}
	}
	for _, a := range mixed() {
		for _, b := range mixed() {
			ask(a, b)
		}
	}
}

// P7.6: what stands ahead of an Ins, and what behind it, stands so behind any row, as far as it is left.
func TestWhereItStood(t *testing.T) {
	for _, ids := range pairs() {
		text := chars("mno")
		for _, b := range rows(text, 3, 'A', ids[1]) {
			for pos := range len(text) + 1 {
				got := applied(t, text, b, Past([]api.Unit{ins(pos, 'x', ids[0])}, b))
				at := slices.Index(got, 'x')
				for i, c := range text {
					if now := slices.Index(got, c); now >= 0 && (i < pos) != (now < at) {
						t.Fatalf("an Ins at %d of %q behind %v: %q", pos, text, b, got)
					}
				}
			}
		}
	}
}

// P7.3: places at, ahead of and behind each unit.
func TestPlaceUnits(t *testing.T) {
	id := one()
	for _, x := range []struct {
		pos  int
		row  []api.Unit
		want int
	}{
		{5, nil, 5}, {0, nil, 0}, {math.MaxInt, nil, math.MaxInt}, {-1, nil, -1},
		{5, []api.Unit{ins(4, 'x', id)}, 6}, {5, []api.Unit{ins(5, 'x', id)}, 6}, {5, []api.Unit{ins(6, 'x', id)}, 5},
		{5, []api.Unit{del(4, 0, id)}, 4}, {5, []api.Unit{del(5, 0, id)}, 5}, {5, []api.Unit{del(6, 0, id)}, 5},
		{0, []api.Unit{ins(0, 'x', id)}, 1}, {0, []api.Unit{ins(1, 'x', id)}, 0}, {0, []api.Unit{del(0, 0, id)}, 0}, {1, []api.Unit{del(0, 0, id)}, 0},
		{5, []api.Unit{nop(id)}, 5}, {0, []api.Unit{nop(id)}, 0},
		// Each unit goes by the place as the ones ahead leave it.
		{5, []api.Unit{ins(5, 'x', id), ins(6, 'x', id)}, 7}, {5, []api.Unit{ins(6, 'x', id), ins(5, 'x', id)}, 6},
		{5, []api.Unit{ins(0, 'x', id), ins(6, 'y', id), ins(7, 'z', id)}, 8}, {5, []api.Unit{del(4, 0, id), del(4, 0, id)}, 4},
		{5, []api.Unit{del(4, 0, id), ins(5, 'x', id)}, 4}, {5, []api.Unit{del(4, 0, id), ins(4, 'x', id)}, 5},
		{5, []api.Unit{ins(5, 'x', id), del(5, 0, id)}, 5}, {2, []api.Unit{del(0, 0, id), del(0, 0, id), del(0, 0, id)}, 0},
		// The place and the units need not fit any text.
		{math.MaxInt, []api.Unit{del(0, 0, id)}, math.MaxInt - 1}, {math.MaxInt, []api.Unit{del(math.MaxInt, 0, id)}, math.MaxInt},
		{math.MaxInt - 1, []api.Unit{ins(math.MaxInt-1, 'x', id)}, math.MaxInt}, {1 << 32, []api.Unit{ins(1, 'x', id)}, 1<<32 + 1},
		{-1, []api.Unit{ins(0, 'x', id), del(0, 0, id)}, -1},
		// Units of no kind are neither.
		{5, []api.Unit{unitOf(3, 0, 'x', id), unitOf(-1, 0, 'x', id), unitOf(api.Nop, 1, 'x', id), unitOf(api.Ins+256, 0, 'x', id), unitOf(api.Del+256, 0, 'x', id)}, 5},
	} {
		given := slices.Clone(x.row)
		if got := Place(x.pos, x.row); got != x.want {
			t.Errorf("Place(%d, %v): got %d, want %d", x.pos, x.row, got, x.want)
		}
		wantRow(t, "the row that was given", x.row, given)
	}
}

// P7.3: on texts: what an Ins brings at the place comes to stand ahead of it, and all else stays on its side.
func TestPlaceOnTexts(t *testing.T) {
	text := chars("mno")
	for _, row := range rows(text, 3, 'a', one()) {
		whole := applied(t, text, row)
		for pos := range len(text) + 1 {
			ahead, rest := slices.Clone(text[:pos]), slices.Clone(text[pos:])
			for _, u := range row {
				switch {
				case u.Kind == api.Ins && u.Pos <= len(ahead):
					ahead = slices.Insert(ahead, u.Pos, u.Char)
				case u.Kind == api.Ins:
					rest = slices.Insert(rest, u.Pos-len(ahead), u.Char)
				case u.Kind == api.Del && u.Pos < len(ahead):
					ahead = slices.Delete(ahead, u.Pos, u.Pos+1)
				case u.Kind == api.Del:
					rest = slices.Delete(rest, u.Pos-len(ahead), u.Pos-len(ahead)+1)
				}
			}
			got := Place(pos, row)
			if got < 0 || got > len(whole) || !slices.Equal(whole[:got], ahead) || !slices.Equal(whole[got:], rest) {
				t.Fatalf("Place(%d, %v): got %d of %q, want %d", pos, row, got, whole, len(ahead))
			}
		}
	}
}

// P7.1, P7.2, R3, R7: what is given stays, also the room behind it, and what is told is new memory.
func TestMemory(t *testing.T) {
	a, b := one(), two()
	roomText, roomA := chars("abcdef"), []api.Unit{ins(1, 'x', a), ins(2, 'y', a), del(0, 0, a), nop(a), nop(a)}
	roomB := []api.Unit{ins(0, 'v', b), del(1, 0, b), ins(1, 'w', b), nop(b), nop(b)}
	keptText, keptA, keptB := slices.Clone(roomText), slices.Clone(roomA), slices.Clone(roomB)
	for size := range 4 {
		text, rowA, rowB := roomText[:size+1], roomA[:size], roomB[:size]
		out, again := applied(t, text, rowA), applied(t, text, rowA)
		x, y := Both(rowA, rowB)
		past, alone := Past(rowA, rowB), Past(rowA)
		wantOut, wantX, wantY := slices.Clone(out), slices.Clone(x), slices.Clone(y)
		spoil(out, '!')
		spoil(x, ins(9, '!', a))
		wantRow(t, "the other row", y, wantY)
		spoil(y, ins(9, '?', b))
		wantChars(t, "the text that was given", roomText, keptText)
		wantRow(t, "the first row that was given", roomA, keptA)
		wantRow(t, "the second row that was given", roomB, keptB)
		spoil(text, '?')
		spoil(rowA, del(9, 0, a))
		spoil(rowB, del(9, 0, b))
		wantChars(t, "another answer", again, wantOut)
		wantRow(t, "Past", past, wantX)
		wantRow(t, "Past over none", alone, keptA[:size])
		copy(roomText, keptText)
		copy(roomA, keptA)
		copy(roomB, keptB)
	}
}

// spoil writes over all that a list has, and into the room behind it.
func spoil[T any](list []T, x T) {
	for i := range list {
		list[i] = x
	}
	_ = append(list, x, x)
}

// R3: a row behind itself, and behind a part of itself: both that are told live apart.
func TestBothOfOne(t *testing.T) {
	row := []api.Unit{ins(0, 'x', one()), del(1, 0, one()), del(0, 0, one())}
	given := slices.Clone(row)
	wantX, wantY := grid(row, given)
	x, y := Both(row, row)
	wantRow(t, "a row behind itself", x, wantX)
	spoil(x, nop(two()))
	wantRow(t, "the other one", y, wantY)
	wantRow(t, "what was given", row, given)
	wantX, wantY = grid(given[:2], given[1:])
	x, y = Both(row[:2], row[1:])
	wantRow(t, "a part behind a part", x, wantX)
	spoil(x, nop(two()))
	wantRow(t, "the other part", y, wantY)
	wantRow(t, "Past", Past(row[:2], row[1:]), wantX)
	wantRow(t, "what was given", row, given)
	rows := [][]api.Unit{row, row}
	wantRow(t, "Past over two", Past(row, rows...), Past(row, row, row))
	wantRow(t, "what was given", rows[0], given)
}

// R7: what is answered hangs on what was called alone.
func TestSameAgain(t *testing.T) {
	for _, a := range mixed() {
		for _, b := range mixed() {
			x, y := Both(a, b)
			Both(b, a)
			once, again := Both(a, b)
			wantRow(t, "once more", once, x)
			wantRow(t, "once more", again, y)
		}
	}
}

// wide are units at each limit of what a record may have.
func wide() []api.Unit {
	var out []api.Unit
	for _, kind := range []int{api.Nop, api.Ins, api.Del} {
		for _, pos := range []int{0, 1, 127, 128, 1<<31 - 1, 1 << 31} {
			for _, c := range []api.Char{0, 'x', 0xd800, 0xdfff, 0x10fffe, 0x10ffff} {
				for _, id := range []api.Id{{}, one(), idOf(math.MaxUint32, math.MaxUint64), idOf(math.MaxUint32-1, math.MaxInt64+1)} {
					out = append(out, unitOf(kind, pos, c, id))
				}
			}
		}
	}
	return out
}

func written(row []api.Unit) []byte {
	var w wire.Writer
	Write(&w, row)
	return w.Out()
}

// record is numbers, one behind the other.
func record(numbers ...uint64) []byte {
	var w wire.Writer
	for _, n := range numbers {
		w.Num(n)
	}
	return w.Out()
}

// P7.7: a row's bytes: how many units, and of each Kind, Pos, Char, Client and Req; below 0 is 0.
func TestWrite(t *testing.T) {
	for _, x := range []struct {
		row  []api.Unit
		want []byte
	}{
		{nil, []byte{0}},
		{[]api.Unit{}, []byte{0}},
		{[]api.Unit{{}}, []byte{1, 0, 0, 0, 0, 0}},
		{[]api.Unit{ins(2, 'x', idOf(3, 4))}, []byte{1, 1, 2, 'x', 3, 4}},
		{[]api.Unit{del(300, 0, idOf(1, 300)), nop(idOf(5, 6))}, []byte{2, 2, 0xac, 2, 0, 1, 0xac, 2, 0, 0, 0, 5, 6}},
		{[]api.Unit{unitOf(-1, -1, -1, idOf(1, 2))}, []byte{1, 0, 0, 0, 1, 2}},
		{[]api.Unit{unitOf(math.MinInt, math.MinInt, math.MinInt32, api.Id{})}, []byte{1, 0, 0, 0, 0, 0}},
		{[]api.Unit{unitOf(-1, 7, 'x', one()), unitOf(1, -7, 'x', one()), unitOf(2, 7, -9, one())}, record(3, 0, 7, 'x', 1, 7, 1, 0, 'x', 1, 7, 2, 7, 0, 1, 7)},
		{[]api.Unit{unitOf(9, math.MaxInt, math.MaxInt32, idOf(math.MaxUint32, math.MaxUint64))}, record(1, 9, math.MaxInt, math.MaxInt32, math.MaxUint32, math.MaxUint64)},
		{[]api.Unit{unitOf(math.MaxInt, 0, 0, api.Id{})}, record(1, math.MaxInt, 0, 0, 0, 0)},
	} {
		given := slices.Clone(x.row)
		if got := written(x.row); !slices.Equal(got, x.want) {
			t.Errorf("%v: got % x, want % x", x.row, got, x.want)
		}
		wantRow(t, "the row that was given", x.row, given)
	}
	var w wire.Writer
	w.Str("a")
	Write(&w, []api.Unit{nop(one())})
	w.Bool(true)
	if got := w.Out(); !slices.Equal(got, []byte{1, 'a', 1, 0, 0, 0, 1, 7, 1}) {
		t.Errorf("among other things: got % x", got)
	}
	Write(nil, []api.Unit{nop(one())})
}

// P7.7: what was written is read, and the reader stands behind it.
func TestBack(t *testing.T) {
	text := chars("mn")
	all := append(rows(text, 3, 'a', two()), wide(), nil, slices.Repeat(wide(), 20))
	for _, u := range wide() {
		all = append(all, []api.Unit{u})
	}
	for _, row := range all {
		b := written(row)
		for _, most := range []int{len(row), len(row) + 1, math.MaxInt} {
			r := wire.New(append(slices.Clone(b), 7, 8))
			got := Read(r, most)
			if !slices.Equal(got, row) || r.Err() != api.OK || r.Left() != 2 || r.Num() != 7 {
				t.Fatalf("%v upto %d: got %v, error %d, %d left", row, most, got, r.Err(), r.Left())
			}
			if again := written(got); !slices.Equal(again, b) {
				t.Fatalf("%v: read as % x, of % x", row, again, b)
			}
		}
	}
}

// P7.7: rows one behind the other, each in new memory, whatever becomes of the bytes.
func TestReadMemory(t *testing.T) {
	first, second := []api.Unit{ins(1, 'x', one()), nop(two())}, []api.Unit{del(2, 0, two())}
	b := slices.Concat(written(first), written(nil), written(second), written(first))
	r := wire.New(b)
	got := Read(r, 2)
	spoil(b, 0xee)
	wantRow(t, "the first", got, first)
	spoil(got, del(9, 0, one()))
	wantRow(t, "the empty one", Read(r, 0), nil)
	other := Read(r, 1)
	wantRow(t, "the second", other, second)
	wantRow(t, "the first, once more", Read(r, 2), first)
	wantRow(t, "the second, later", other, second)
	if e := r.End(); e != api.OK {
		t.Errorf("at the end: error %d", e)
	}
}

// refuse asks that the bytes, as a reader's first ones and behind a number, are this error and no row, and that nothing is told behind it.
func refuse(t *testing.T, what string, b []byte, most int, want api.Errno) {
	t.Helper()
	for _, ahead := range [][]byte{nil, {5}} {
		r := wire.New(slices.Concat(ahead, b))
		if len(ahead) > 0 && r.Num() != 5 {
			t.Errorf("%s: the number ahead", what)
		}
		if got := Read(r, most); len(got) != 0 || r.Err() != want {
			t.Errorf("%s: % x upto %d: got %v, error %d, want %d", what, b, most, got, r.Err(), want)
		}
		if got := Read(r, most); len(got) != 0 || r.Left() != 0 || r.Num() != 0 || r.End() != want {
			t.Errorf("%s: % x upto %d: behind the error: %v, error %d", what, b, most, got, r.Err())
		}
	}
}

// P7.7: each limit from above; the first thing that is wrong counts, also where bytes are wanting behind it.
func TestReadRefuses(t *testing.T) {
	const most = math.MaxUint64
	good := []uint64{api.Ins, 1 << 31, 0x10ffff, math.MaxUint32, most}
	for _, x := range []struct {
		at   int
		n    uint64
		want api.Errno
	}{
		{0, 3, api.ErrForm}, {0, 256, api.ErrForm}, {0, 257, api.ErrForm}, {0, 1<<32 + 1, api.ErrForm}, {0, 1 << 63, api.ErrForm}, {0, most, api.ErrForm},
		{1, 1<<31 + 1, api.ErrLong}, {1, 1 << 32, api.ErrLong}, {1, 1 << 63, api.ErrLong}, {1, most, api.ErrLong},
		{2, 0x110000, api.ErrLong}, {2, 1<<32 + 'x', api.ErrLong}, {2, 1 << 63, api.ErrLong}, {2, most, api.ErrLong},
		{3, 1 << 32, api.ErrLong}, {3, 1<<32 + 1, api.ErrLong}, {3, 1 << 63, api.ErrLong}, {3, most, api.ErrLong},
	} {
		bad := slices.Clone(good)
		bad[x.at] = x.n
		for _, b := range [][]byte{
			record(append([]uint64{1}, bad...)...),
			record(append([]uint64{2}, slices.Concat(good, bad)...)...),
			record(append([]uint64{2}, slices.Concat(bad, good)...)...),
			record(append([]uint64{1}, bad[:x.at+1]...)...),
			record(append([]uint64{9}, slices.Concat(good, bad[:x.at+1])...)...),
		} {
			refuse(t, "above a limit", b, 9, x.want)
		}
		// Of two wrong things the first one counts.
		for later := x.at + 1; later < 4; later++ {
			twice := slices.Clone(bad)
			twice[later] = most
			refuse(t, "two above their limits", record(append([]uint64{1}, twice...)...), 9, x.want)
		}
	}
	r := wire.New(record(append([]uint64{1}, good...)...))
	wantRow(t, "all at their limits", Read(r, 1), []api.Unit{ins(1<<31, 0x10ffff, idOf(math.MaxUint32, most))})
}

// P7.7: how many units there may be, from both sides; below 0 counts as 0.
func TestReadCount(t *testing.T) {
	for size := range 5 {
		row := slices.Repeat([]api.Unit{ins(1, 'x', one())}, size)
		b := written(row)
		for most := range 6 {
			if most < size {
				refuse(t, "too many", b, most, api.ErrLong)
				continue
			}
			r := wire.New(b)
			wantRow(t, "not too many", Read(r, most), row)
			if e := r.End(); e != api.OK {
				t.Errorf("%d upto %d: error %d", size, most, e)
			}
		}
		for _, most := range []int{-1, math.MinInt} {
			if size > 0 {
				refuse(t, "most below 0", b, most, api.ErrLong)
			} else if r := wire.New(b); len(Read(r, most)) != 0 || r.End() != api.OK {
				t.Errorf("none upto %d: error %d", most, r.Err())
			}
		}
	}
	refuse(t, "too many, of which none is there", record(257), api.MaxUnits, api.ErrLong)
	refuse(t, "as many as may be, of which none is there", record(256), api.MaxUnits, api.ErrShort)
	refuse(t, "the greatest int", record(math.MaxInt), math.MaxInt, api.ErrShort)
	refuse(t, "the greatest int, of which one is there", slices.Concat(record(math.MaxInt), record(1, 0, 'x', 1, 1)), math.MaxInt, api.ErrShort)
	refuse(t, "above every int", record(math.MaxInt+1), math.MaxInt, api.ErrLong)
	refuse(t, "the greatest number", record(math.MaxUint64), math.MaxInt, api.ErrLong)
}

// P7.7: each beginning of a record is short, and what is no number is refused by the reader's error.
func TestReadReaders(t *testing.T) {
	b := written([]api.Unit{ins(300, 0x10ffff, idOf(math.MaxUint32, math.MaxUint64)), del(0, 0, two()), nop(one())})
	for size := range b {
		refuse(t, "a beginning", b[:size], 3, api.ErrShort)
	}
	zero := []byte{0x80, 0} // 0, in more bytes than it takes
	numbers := [][]byte{{1}, {1}, {1}, {1}, {1}, {1}}
	for i := range numbers {
		bad := slices.Clone(numbers)
		bad[i] = zero
		refuse(t, "no number", slices.Concat(bad...), 9, api.ErrForm)
	}
	var declared wire.Reader
	for _, r := range []*wire.Reader{nil, &declared} {
		if got := Read(r, 9); len(got) != 0 || r.Err() != api.ErrNil {
			t.Errorf("not made: got %v, error %d", got, r.Err())
		}
	}
	for _, e := range []api.Errno{api.ErrSum, api.ErrForm, api.ErrState} {
		r := wire.New(b)
		r.Fail(e)
		if got := Read(r, 9); len(got) != 0 || r.Err() != e {
			t.Errorf("behind error %d: got %v, error %d", e, got, r.Err())
		}
	}
}
