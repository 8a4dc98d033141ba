package undo

import (
	"math"
	"slices"
	"strings"
	"testing"

	"copybook/api"
	"copybook/unit"
	"copybook/weave"
)

func chars(s string) []api.Char {
	var out []api.Char
	for _, r := range s {
		out = append(out, api.Char(r))
	}
	return out
}

func idOf(client uint32, req uint64) api.Id { return api.Id{Client: client, Req: req} }

// me is whose the rows are that are taken back, again whose request takes them back, and first and last are other clients: one ahead of both, one behind.
func me() api.Id { return idOf(2, 7) }

func again() api.Id { return idOf(2, 9) }

func first() api.Id { return idOf(1, 8) }

func last() api.Id { return idOf(3, 1) }

func unitOf(kind, pos int, c api.Char, id api.Id) api.Unit {
	return api.Unit{Kind: kind, Pos: pos, Char: c, Id: id}
}

func nop(id api.Id) api.Unit { return unitOf(api.Nop, 0, 0, id) }

func ins(pos int, c api.Char, id api.Id) api.Unit { return unitOf(api.Ins, pos, c, id) }

func del(pos int, c api.Char, id api.Id) api.Unit { return unitOf(api.Del, pos, c, id) }

// rows are all rows of up to most units that fit a text. Of an Ins the Char tells its place in the row, counted from brings on, so that none stands in a text twice; of a Del it is 0, and of a row's last unit also what goes, and what does not.
func rows(text []api.Char, most int, brings api.Char, id api.Id) [][]api.Unit {
	out := [][]api.Unit{nil}
	if most == 0 {
		return out
	}
	firsts := []api.Unit{nop(id)}
	for pos := range len(text) + 1 {
		firsts = append(firsts, ins(pos, brings, id))
	}
	for pos := range text {
		firsts = append(firsts, del(pos, 0, id))
	}
	for _, u := range firsts {
		for _, rest := range rows(plain(text, u), most-1, brings+1, id) {
			out = append(out, append([]api.Unit{u}, rest...))
		}
	}
	for pos, c := range text {
		out = append(out, []api.Unit{del(pos, c, id)}, []api.Unit{del(pos, c/2, id)})
	}
	return out
}

// plain is the text behind units that fit it, told by what stands ahead and what behind.
func plain(text []api.Char, row ...api.Unit) []api.Char {
	for _, u := range row {
		ahead, rest := slices.Clone(text[:u.Pos]), text[u.Pos:]
		switch u.Kind {
		case api.Ins:
			ahead = append(ahead, u.Char)
		case api.Del:
			rest = rest[1:]
		}
		text = append(ahead, rest...)
	}
	return text
}

// wrong are units that may not be.
func wrong() []api.Unit {
	id := me()
	out := []api.Unit{unitOf(api.Nop, 1, 0, id), unitOf(api.Nop, -1, 0, id), unitOf(api.Nop, 0, 1, id)}
	for _, kind := range []int{api.Ins, api.Del} {
		out = append(out, unitOf(kind, -1, 'x', id), unitOf(kind, math.MinInt, 'x', id))
		for _, c := range []api.Char{-1, math.MinInt32, 0xd800, 0xdfff, 0x110000, math.MaxInt32} {
			out = append(out, unitOf(kind, 0, c, id))
		}
	}
	return append(out, others()...)
}

// others are units of other Kinds.
func others() []api.Unit {
	var out []api.Unit
	for _, kind := range []int{-2, -1, 3, 4, math.MinInt, math.MaxInt, api.Ins + 256, api.Del + 256, api.Ins + 1<<32, api.Del + 1<<32} {
		out = append(out, unitOf(kind, 0, 0, me()), unitOf(kind, 1, 'x', last()), unitOf(kind, -1, -1, api.Id{}))
	}
	return out
}

// mixed are rows of all kinds, also of units that may not be, and that fit no short text.
func mixed() [][]api.Unit {
	a, b := me(), last()
	out := [][]api.Unit{
		nil,
		{},
		{ins(0, 'x', a), del(9, 'p', b), nop(a), ins(3, 'y', b)},
		{ins(1, 'x', a), ins(1, 'x', a), del(1, 'x', a), del(0, 0, a)},
		{del(2, 'q', b), del(2, 'r', b), ins(2, 'z', b), nop(b)},
		{ins(math.MaxInt, 'x', a), del(math.MaxInt, 0, b), ins(0, 'x', b)},
		{ins(0, 0x10ffff, api.Id{}), del(0, 0x10ffff, api.Id{}), del(0, 0, idOf(math.MaxUint32, math.MaxUint64))},
	}
	bad := wrong()
	for i := range bad {
		out = append(out, []api.Unit{ins(1, 'x', b), bad[i], del(0, 's', b), bad[(i*5+3)%len(bad)]})
	}
	return out
}

func wantChars(t *testing.T, what string, got, want []api.Char) {
	t.Helper()
	if !slices.Equal(got, want) {
		t.Errorf("%s: got %q, want %q", what, got, want)
	}
}

func wantRow(t *testing.T, what string, got, want []api.Unit) {
	t.Helper()
	if !slices.Equal(got, want) {
		t.Errorf("%s: got %v, want %v", what, got, want)
	}
}

// applied is the text behind rows, asked of weave.
func applied(t *testing.T, text []api.Char, row ...[]api.Unit) []api.Char {
	t.Helper()
	out, e := weave.Apply(text, slices.Concat(row...))
	if e != api.OK {
		t.Fatalf("Apply(%q, %v): got error %d", text, row, e)
	}
	return out
}

// filled is a row that fits, filled.
func filled(t *testing.T, row []api.Unit, text []api.Char) []api.Unit {
	t.Helper()
	out, e := Fill(row, text)
	if e != api.OK {
		t.Fatalf("Fill(%v, %q): got error %d", row, text, e)
	}
	return out
}

// P9.1: the chapter's examples.
func TestExamples(t *testing.T) {
	text := chars("abc")
	row := filled(t, []api.Unit{del(1, 0, me()), ins(0, 'x', me())}, text)
	wantRow(t, "Fill", row, []api.Unit{del(1, 'b', me()), ins(0, 'x', me())})
	wantChars(t, "behind it", applied(t, text, row), chars("xac"))
	wantRow(t, "Inverse", Inverse(row, again()), []api.Unit{del(0, 0, again()), ins(1, 'b', again())})
	later := []api.Unit{ins(3, 'y', last())}
	back := Back(row, again(), later)
	wantRow(t, "Back", back, []api.Unit{del(0, 0, again()), ins(1, 'b', again())})
	wantChars(t, "behind that", applied(t, text, row, later, back), chars("abcy"))
}

// byHand is a row filled by the chapter's words.
func byHand(row []api.Unit, text []api.Char) []api.Unit {
	var out []api.Unit
	for i, u := range row {
		if now := plain(text, row[:i]...); u.Kind == api.Del {
			u.Char = now[u.Pos]
		}
		out = append(out, u)
	}
	return out
}

// P9.1: all short rows on short texts are filled, and what is given stays.
func TestFillShort(t *testing.T) {
	for size := range 4 {
		text := chars("mno"[:size])
		for _, row := range rows(text, 3, 'a', me()) {
			keptRow, keptText := slices.Clone(row), slices.Clone(text)
			got, e := Fill(row, text)
			if want := byHand(row, text); e != api.OK || !slices.Equal(got, want) {
				t.Errorf("Fill(%v, %q): got %v, error %d, want %v", row, text, got, e, want)
			}
			wantRow(t, "the row that was given", row, keptRow)
			wantChars(t, "the text that was given", text, keptText)
		}
	}
}

// P9.1: rows that are filled, written out: Dels of places that earlier units moved, of what the row brought itself, with another Char, and with what is no code point.
func TestFillWritten(t *testing.T) {
	a, b := me(), idOf(math.MaxUint32, math.MaxUint64)
	odd := []api.Char{-1, 0, 0xd800, 0x110000, math.MaxInt32, math.MinInt32}
	for _, x := range []struct {
		text      []api.Char
		row, want []api.Unit
	}{
		{nil, nil, nil},
		{chars("ab"), nil, nil},
		{nil, []api.Unit{nop(a), nop(b)}, []api.Unit{nop(a), nop(b)}},
		{chars("ab"), []api.Unit{ins(2, 'x', a), nop(b), ins(0, 0, b)}, []api.Unit{ins(2, 'x', a), nop(b), ins(0, 0, b)}},
		{chars("a"), []api.Unit{del(0, 0, b)}, []api.Unit{del(0, 'a', b)}},
		{chars("a"), []api.Unit{del(0, 'a', b)}, []api.Unit{del(0, 'a', b)}},
		{chars("a"), []api.Unit{del(0, 'z', b)}, []api.Unit{del(0, 'a', b)}},
		{chars("aa"), []api.Unit{del(1, 0x10ffff, a)}, []api.Unit{del(1, 'a', a)}},
		{chars("abc"), []api.Unit{del(0, 0, a), del(0, 0, a), del(0, 0, b)}, []api.Unit{del(0, 'a', a), del(0, 'b', a), del(0, 'c', b)}},
		{chars("abc"), []api.Unit{del(2, 0, a), del(1, 0, a), del(0, 0, a)}, []api.Unit{del(2, 'c', a), del(1, 'b', a), del(0, 'a', a)}},
		{chars("abc"), []api.Unit{del(1, 0, a), del(1, 0, a)}, []api.Unit{del(1, 'b', a), del(1, 'c', a)}},
		{chars("abc"), []api.Unit{ins(0, 'x', a), del(1, 0, a), del(2, 0, a)}, []api.Unit{ins(0, 'x', a), del(1, 'a', a), del(2, 'c', a)}},
		{chars("abc"), []api.Unit{ins(3, 'x', a), nop(b), del(2, 0, a), del(2, 0, a)}, []api.Unit{ins(3, 'x', a), nop(b), del(2, 'c', a), del(2, 'x', a)}},
		{nil, []api.Unit{ins(0, 'x', a), ins(1, 'y', a), del(0, 'y', a), del(0, 'x', b)}, []api.Unit{ins(0, 'x', a), ins(1, 'y', a), del(0, 'x', a), del(0, 'y', b)}},
		{odd, []api.Unit{del(5, 0, a), del(3, 0, a), ins(0, 'x', a), del(3, 'z', a), del(1, 0, a)}, []api.Unit{del(5, math.MinInt32, a), del(3, 0x110000, a), ins(0, 'x', a), del(3, 0xd800, a), del(1, -1, a)}},
		{[]api.Char{0, 'b'}, []api.Unit{del(0, 'b', a)}, []api.Unit{del(0, 0, a)}},
	} {
		wantFilled(t, x.row, x.text, x.want, api.OK)
	}
}

// wantFilled asks for a filled row, or for an error and nothing beside it; and that what is given stays.
func wantFilled(t *testing.T, row []api.Unit, text []api.Char, want []api.Unit, err api.Errno) {
	t.Helper()
	keptRow, keptText := slices.Clone(row), slices.Clone(text)
	got, e := Fill(row, text)
	if e != err || !slices.Equal(got, want) {
		t.Errorf("Fill(%v, %q): got %v, error %d, want %v, error %d", row, text, got, e, want, err)
	}
	wantRow(t, "the row that was given", row, keptRow)
	wantChars(t, "the text that was given", text, keptText)
}

// P9.1: a row that does not fit is ErrRange, at its first unit and at a later one; a unit that may not be is ErrArg, wherever it stands.
func TestFillErrors(t *testing.T) {
	id := me()
	fit := []api.Unit{del(0, 0, id), ins(0, 'x', id)}
	for _, row := range [][]api.Unit{
		{ins(4, 'x', id)}, {del(3, 0, id)}, {del(3, 'c', id), ins(0, 'x', id)},
		{ins(math.MaxInt, 'x', id)}, {del(math.MaxInt, 0, id)}, {ins(1<<32, 'x', id)}, {del(1<<32, 0, id)},
		{del(0, 0, id), del(2, 0, id)}, {del(0, 0, id), ins(3, 'x', id)}, {nop(id), del(2, 0, id), nop(id), del(2, 0, id)},
		{ins(0, 'x', id), del(4, 0, id)}, {del(0, 0, id), del(0, 0, id), del(0, 0, id), del(0, 0, id)},
	} {
		wantFilled(t, row, chars("abc"), nil, api.ErrRange)
		wantFilled(t, slices.Concat(fit, row), chars("abc"), nil, api.ErrRange)
		wantFilled(t, slices.Concat(row, fit), chars("abc"), nil, api.ErrRange)
	}
	wantFilled(t, []api.Unit{del(0, 0, id)}, nil, nil, api.ErrRange)
	wantFilled(t, []api.Unit{ins(1, 'x', id)}, nil, nil, api.ErrRange)
	for _, bad := range wrong() {
		for _, row := range [][]api.Unit{{bad}, {bad, bad}, append(slices.Clip(fit), bad), {bad, fit[0], fit[1]}, {fit[0], bad, fit[1]}, {del(9, 0, id), bad}, {bad, ins(9, 'x', id)}, {fit[0], del(2, 0, id), bad}} {
			wantFilled(t, row, chars("abc"), nil, api.ErrArg)
			wantFilled(t, row, nil, nil, api.ErrArg)
		}
	}
}

// P9.1: Fill's error is weave.Long's, of the row and the text's length.
func TestFillErrorsAsLong(t *testing.T) {
	for size := range 11 {
		text := chars("abcdefghij"[:size])
		for _, row := range mixed() {
			_, want := weave.Long(row, size)
			if got, e := Fill(row, text); e != want || e != api.OK && len(got) > 0 {
				t.Errorf("Fill(%v, %q): got %v, error %d, want error %d", row, text, got, e, want)
			}
		}
	}
}

// P9.1, R1: long rows on long texts, in time that goes with both.
func TestFillLong(t *testing.T) {
	const long = 30000
	text := chars(strings.Repeat("abcdefg", long/7+1)[:long])
	var erased, typed, want []api.Unit
	for i, c := range text {
		erased = append(erased, del(0, 0, me()))
		want = append(want, del(0, c, me()))
		typed = append(typed, ins(i, c, me()))
	}
	wantRow(t, "erased", filled(t, erased, text), want)
	wantRow(t, "typed", filled(t, typed, nil), typed)
	wantRow(t, "typed and erased", filled(t, append(typed, erased...), chars("z")), append(typed, want...))
}

// P9.1: the inverse of each Kind of unit, whatever else it has: all with the Id that is given.
func TestInverseOfOne(t *testing.T) {
	for _, id := range []api.Id{{}, me(), again(), idOf(math.MaxUint32, math.MaxUint64), idOf(0, math.MaxUint64)} {
		for _, whose := range []api.Id{{}, me(), last(), idOf(math.MaxUint32, 0)} {
			for _, pos := range []int{0, 1, 4096, 1 << 32, math.MaxInt, -1, math.MinInt} {
				for _, c := range []api.Char{0, 1, 'x', 0xd7ff, 0xe000, 0x10ffff, -1, 0xd800, 0x110000, math.MinInt32, math.MaxInt32} {
					wantInverse(t, []api.Unit{ins(pos, c, whose)}, id, []api.Unit{del(pos, 0, id)})
					wantInverse(t, []api.Unit{del(pos, c, whose)}, id, []api.Unit{ins(pos, c, id)})
					wantInverse(t, []api.Unit{unitOf(api.Nop, pos, c, whose)}, id, []api.Unit{nop(id)})
					wantInverse(t, []api.Unit{unitOf(3, pos, c, whose)}, id, []api.Unit{nop(id)})
				}
			}
		}
		for _, u := range others() {
			wantInverse(t, []api.Unit{u}, id, []api.Unit{nop(id)})
			wantInverse(t, []api.Unit{ins(2, 'x', me()), u, del(1, 'y', me())}, id, []api.Unit{ins(1, 'y', id), nop(id), del(2, 0, id)})
		}
	}
}

func wantInverse(t *testing.T, row []api.Unit, id api.Id, want []api.Unit) {
	t.Helper()
	kept := slices.Clone(row)
	wantRow(t, "Inverse", Inverse(row, id), want)
	wantRow(t, "the row that was given", row, kept)
}

// inverse is the chapter's word of it.
func inverse(row []api.Unit, id api.Id) []api.Unit {
	var out []api.Unit
	for _, u := range row {
		turned := nop(id)
		switch u.Kind {
		case api.Ins:
			turned = del(u.Pos, 0, id)
		case api.Del:
			turned = ins(u.Pos, u.Char, id)
		}
		out = append([]api.Unit{turned}, out...)
	}
	return out
}

// P9.1: inverses of rows: the last unit first, as many as there are.
func TestInverseOfMany(t *testing.T) {
	a, b, id := me(), last(), again()
	wantInverse(t, nil, id, nil)
	wantInverse(t, []api.Unit{}, id, nil)
	wantInverse(t, []api.Unit{ins(0, 'x', a), ins(1, 'y', a), ins(2, 'z', b)}, id, []api.Unit{del(2, 0, id), del(1, 0, id), del(0, 0, id)})
	wantInverse(t, []api.Unit{del(4, 'p', a), del(4, 'q', a), del(3, 0, b)}, id, []api.Unit{ins(3, 0, id), ins(4, 'q', id), ins(4, 'p', id)})
	wantInverse(t, []api.Unit{nop(a), ins(5, 'x', b), nop(b), nop(b), del(0, 'p', a)}, id, []api.Unit{ins(0, 'p', id), nop(id), nop(id), del(5, 0, id), nop(id)})
	for _, row := range slices.Concat(mixed(), rows(chars("mn"), 3, 'a', a)) {
		wantInverse(t, row, id, inverse(row, id))
	}
	long := slices.Repeat([]api.Unit{ins(7, 'x', a), del(3, 'y', b), nop(a), unitOf(3, 1, 'z', a)}, 3000)
	wantInverse(t, long, id, slices.Repeat([]api.Unit{nop(id), nop(id), ins(3, 'y', id), del(7, 0, id)}, 3000))
}

// P9.1: a row without its Nops, whatever else they have, all else as it is and in order.
func TestClean(t *testing.T) {
	a, b := me(), last()
	x, y := ins(9, 'x', a), del(3, 'y', b)
	for _, c := range []struct{ row, want []api.Unit }{
		{nil, nil},
		{[]api.Unit{}, nil},
		{[]api.Unit{{}}, nil},
		{[]api.Unit{nop(a)}, nil},
		{[]api.Unit{nop(a), nop(b), nop(a)}, nil},
		{[]api.Unit{unitOf(api.Nop, 1, 0, a), unitOf(api.Nop, 0, 'x', a), unitOf(api.Nop, -1, -1, a)}, nil},
		{[]api.Unit{x}, []api.Unit{x}},
		{[]api.Unit{x, x, y, y, x}, []api.Unit{x, x, y, y, x}},
		{[]api.Unit{x, nop(a), y}, []api.Unit{x, y}},
		{[]api.Unit{nop(a), y, nop(b), nop(b), x, x, nop(a)}, []api.Unit{y, x, x}},
		{[]api.Unit{y, nop(a), y, x, nop(b)}, []api.Unit{y, y, x}},
		{slices.Repeat([]api.Unit{nop(a), x, nop(b), y}, 5000), slices.Repeat([]api.Unit{x, y}, 5000)},
	} {
		wantClean(t, c.row, c.want)
	}
	for _, u := range wrong() {
		if u.Kind != api.Nop {
			wantClean(t, []api.Unit{u, nop(a), u, x}, []api.Unit{u, u, x})
		}
	}
}

func wantClean(t *testing.T, row, want []api.Unit) {
	t.Helper()
	kept := slices.Clone(row)
	wantRow(t, "Clean", Clean(row), want)
	wantRow(t, "the row that was given", row, kept)
}

// P9.1: what takes a row back, written out: behind no later row, behind one and behind several.
func TestBackWritten(t *testing.T) {
	a, id, x, z := me(), again(), first(), last()
	came := []api.Unit{ins(1, 'x', a), ins(2, 'y', a)}
	went := []api.Unit{del(1, 'b', a), del(1, 'c', a)}
	both := []api.Unit{ins(1, 'x', a), nop(a), del(2, 'b', a)}
	for _, c := range []struct {
		row   []api.Unit
		later [][]api.Unit
		want  []api.Unit
	}{
		{nil, nil, nil},
		{nil, [][]api.Unit{{ins(0, 'p', x)}, {del(0, 0, z)}}, nil},
		{[]api.Unit{nop(a), unitOf(3, 1, 'x', a)}, [][]api.Unit{{ins(0, 'p', x)}}, nil},
		{came, nil, []api.Unit{del(2, 0, id), del(1, 0, id)}},
		{came, [][]api.Unit{nil, {}, nil}, []api.Unit{del(2, 0, id), del(1, 0, id)}},
		{went, nil, []api.Unit{ins(1, 'c', id), ins(1, 'b', id)}},
		{both, nil, []api.Unit{ins(2, 'b', id), del(1, 0, id)}},
		// A later row that took out what the row brought: that is not taken out twice.
		{came, [][]api.Unit{{del(1, 0, x)}}, []api.Unit{del(1, 0, id)}},
		{came, [][]api.Unit{{del(2, 0, x)}}, []api.Unit{del(1, 0, id)}},
		{came, [][]api.Unit{{del(1, 0, x), del(1, 0, x)}}, nil},
		{came, [][]api.Unit{{del(1, 0, x)}, {del(1, 0, z)}}, nil},
		{both, [][]api.Unit{{del(1, 0, x)}}, []api.Unit{ins(1, 'b', id)}},
		// Later rows that brought something ahead, between and behind.
		{came, [][]api.Unit{{ins(0, 'p', x)}}, []api.Unit{del(3, 0, id), del(2, 0, id)}},
		{came, [][]api.Unit{{ins(1, 'p', z)}}, []api.Unit{del(3, 0, id), del(2, 0, id)}},
		{came, [][]api.Unit{{ins(2, 'p', x)}}, []api.Unit{del(3, 0, id), del(1, 0, id)}},
		{came, [][]api.Unit{{ins(3, 'p', x)}}, []api.Unit{del(2, 0, id), del(1, 0, id)}},
		// One that brought something where the row took out: of two at one place the lesser client's stays ahead.
		{went, [][]api.Unit{{ins(1, 'p', x)}}, []api.Unit{ins(2, 'c', id), ins(2, 'b', id)}},
		{went, [][]api.Unit{{ins(1, 'p', z)}}, []api.Unit{ins(1, 'c', id), ins(1, 'b', id)}},
		{went, [][]api.Unit{{ins(1, 'p', idOf(2, 8))}}, []api.Unit{ins(2, 'c', id), ins(2, 'b', id)}},
		{went, [][]api.Unit{{ins(1, 'p', idOf(2, 10))}}, []api.Unit{ins(1, 'c', id), ins(1, 'b', id)}},
		// Several, each meant for what the ones ahead leave.
		{came, [][]api.Unit{{ins(0, 'p', x)}, {del(3, 0, z)}}, []api.Unit{del(2, 0, id)}},
		{came, [][]api.Unit{{del(0, 0, z), ins(1, 'p', z)}, {ins(0, 'q', x), ins(0, 'r', x)}, {del(2, 0, x)}}, []api.Unit{del(3, 0, id)}},
		{went, [][]api.Unit{{del(0, 0, x)}, {ins(0, 'p', z)}, {ins(0, 'q', x)}}, []api.Unit{ins(1, 'c', id), ins(1, 'b', id)}},
		// A row that was not filled brings what it says.
		{[]api.Unit{del(1, 0, a)}, nil, []api.Unit{ins(1, 0, id)}},
	} {
		wantBack(t, c.row, id, c.later, c.want)
	}
}

func wantBack(t *testing.T, row []api.Unit, id api.Id, later [][]api.Unit, want []api.Unit) {
	t.Helper()
	keptRow, kept := slices.Clone(row), slices.Concat(later...)
	if got := Back(row, id, later...); !slices.Equal(got, want) {
		t.Fatalf("Back(%v, %v, %v): got %v, want %v", row, id, later, got, want)
	}
	wantRow(t, "the row that was given", row, keptRow)
	wantRow(t, "the later rows that were given", slices.Concat(later...), kept)
}

// takesBack is what takes a row back by the words of the chapters: its inverse, its units carried over each later row one by one, and no Nops.
func takesBack(row []api.Unit, id api.Id, later ...[]api.Unit) []api.Unit {
	row = inverse(row, id)
	for _, b := range later {
		b = slices.Clone(b)
		for i := range row {
			for j, y := range b {
				row[i], b[j] = unit.Over(row[i], y), unit.Over(y, row[i])
			}
		}
	}
	var out []api.Unit
	for _, u := range row {
		if u.Kind != api.Nop {
			out = append(out, u)
		}
	}
	return out
}

// P9.1: all short rows, behind all short later ones, one and two, of Ids ahead, behind and the same.
func TestBackShort(t *testing.T) {
	text := chars("mn")
	for _, row := range rows(text, 2, 'a', me()) {
		row = byHand(row, text)
		behind := plain(text, row...)
		for _, whose := range []api.Id{first(), last(), again()} {
			for _, later := range rows(behind, 2, 'A', whose) {
				want := takesBack(row, again(), later)
				wantBack(t, row, again(), [][]api.Unit{later}, want)
				wantBack(t, row, again(), [][]api.Unit{nil, later, nil}, want)
				for i := range len(later) + 1 {
					wantBack(t, row, again(), [][]api.Unit{later[:i], later[i:]}, want)
				}
			}
		}
	}
}

// P9.1, R1: rows that fit no short text, of units that may not be, and at the greatest places.
func TestBackMixed(t *testing.T) {
	all := mixed()
	for i, row := range all {
		for j, later := range all {
			wantBack(t, row, again(), [][]api.Unit{later}, takesBack(row, again(), later))
			third := all[(i*7+j)%len(all)]
			wantBack(t, row, first(), [][]api.Unit{later, third}, takesBack(row, first(), later, third))
		}
		wantBack(t, row, again(), nil, takesBack(row, again()))
		wantBack(t, row, again(), all, takesBack(row, again(), all...))
	}
}

// P9.2: a filled row and its inverse leave a text as it was; the inverse, filled, has the row's Chars, and the inverse of that does what the row does.
func TestThereAndBack(t *testing.T) {
	for size := range 4 {
		text := chars("mno"[:size])
		for _, row := range rows(text, 3, 'a', me()) {
			wantThereAndBack(t, row, text)
		}
	}
	for _, text := range [][]api.Char{chars("mmmm"), {0, 0x10ffff, 0xd7ff, 0xe000}} {
		for _, row := range rows(text, 2, text[0], me()) {
			wantThereAndBack(t, row, text)
		}
	}
}

func wantThereAndBack(t *testing.T, row []api.Unit, text []api.Char) {
	t.Helper()
	row = filled(t, row, text)
	behind := applied(t, text, row)
	back := Inverse(row, again())
	wantChars(t, "there and back", applied(t, behind, back), text)
	wantChars(t, "there and back, as Back tells it", applied(t, behind, Back(row, again())), text)
	full := filled(t, back, behind)
	for i, u := range full {
		was := row[len(row)-1-i]
		if u.Char != was.Char || u.Pos != was.Pos || u.Kind == api.Del && was.Kind != api.Ins {
			t.Fatalf("the inverse of %v, filled: got %v", row, full)
		}
	}
	there := Inverse(full, me())
	if !slices.EqualFunc(there, row, unit.Like) {
		t.Fatalf("the inverse's inverse: got %v, want %v", there, row)
	}
	wantChars(t, "the inverse's inverse", applied(t, text, there), behind)
	wantRow(t, "the inverse's inverse, filled", filled(t, there, text), row)
}

// P9.2: long rows, there and back.
func TestThereAndBackLong(t *testing.T) {
	text := chars(strings.Repeat("mnopqrst", 600))
	for _, step := range []int{1, 7, 4001} {
		var row []api.Unit
		long := len(text)
		for i := range 900 {
			pos := (i*step + 3) % long
			if i%3 == 1 {
				row, long = append(row, ins(pos, api.Char('A'+i), me())), long+1
			} else {
				row, long = append(row, del(pos, 0, me())), long-1
			}
		}
		wantThereAndBack(t, row, text)
	}
}

// story is all texts that rows leave, one behind the other, unit by unit, the text itself among them.
func story(text []api.Char, rows ...[]api.Unit) [][]api.Char {
	out := [][]api.Char{text}
	for _, u := range slices.Concat(rows...) {
		text = plain(text, u)
		out = append(out, text)
	}
	return out
}

// order tells which of two chars stood ahead of the other one in any of the texts, or ahead of one that stood ahead of it, and so on.
func order(texts [][]api.Char) func(a, b api.Char) bool {
	all := slices.Concat(texts...)
	slices.Sort(all)
	all = slices.Compact(all)
	place := func(c api.Char) int { return slices.Index(all, c) }
	ahead := make([][]bool, len(all))
	for i := range all {
		ahead[i] = make([]bool, len(all))
	}
	for _, text := range texts {
		for i := 1; i < len(text); i++ {
			ahead[place(text[i-1])][place(text[i])] = true
		}
	}
	for via := range all {
		for i := range all {
			for j := range all {
				ahead[i][j] = ahead[i][j] || ahead[i][via] && ahead[via][j]
			}
		}
	}
	return func(a, b api.Char) bool { return ahead[place(a)][place(b)] }
}

// left is a text's chars that f holds of.
func left(text []api.Char, f func(api.Char) bool) []api.Char {
	return slices.DeleteFunc(slices.Clone(text), func(c api.Char) bool { return !f(c) })
}

// brings tells whether a row has an Ins of a char.
func brings(row []api.Unit, c api.Char) bool {
	return slices.ContainsFunc(row, func(u api.Unit) bool { return u.Kind == api.Ins && u.Char == c })
}

// wantSelective asks that what takes a filled row back takes out what it brought, as far as it is there, and brings again just what it took out, all where it stood. It tells whether a later row took out something that the row brought.
func wantSelective(t *testing.T, text []api.Char, row []api.Unit, later ...[]api.Unit) bool {
	t.Helper()
	behind := plain(text, row...)
	now := applied(t, behind, later...)
	got := applied(t, now, Back(row, again(), later...))
	stood := func(c api.Char) bool { return slices.Contains(text, c) }
	took := func(c api.Char) bool { return stood(c) && !slices.Contains(behind, c) }
	brought := func(c api.Char) bool { return !stood(c) && slices.Contains(behind, c) }
	rest := left(now, func(c api.Char) bool { return !brought(c) })
	wantChars(t, "all that the row did not bring", left(got, func(c api.Char) bool { return !took(c) }), rest)
	wantChars(t, "all that the row took out", left(got, took), left(text, took))
	wantChars(t, "what stood at first", left(got, stood), left(text, func(c api.Char) bool { return took(c) || slices.Contains(now, c) }))
	texts := story(text, append([][]api.Unit{row}, later...)...)
	for i := range texts {
		// What the row brought is gone ahead of the later rows' units: it holds nothing apart.
		texts[i] = left(texts[i], func(c api.Char) bool { return !brings(row, c) })
	}
	ahead := order(texts)
	for i, c := range got {
		for _, d := range got[i+1:] {
			if ahead(d, c) {
				t.Errorf("%q: %q stood ahead of %q", got, d, c)
			}
		}
	}
	if t.Failed() {
		t.Fatalf("on %q, %v behind %v: got %q of %q", text, row, later, got, now)
	}
	return len(left(behind, brought)) > len(left(now, brought))
}

// P9.3: all short rows, behind all short later ones, of Ids ahead and behind: both where the later row takes out what the row brought, and where it does not.
func TestSelective(t *testing.T) {
	count := [2]int{}
	for _, whose := range []api.Id{first(), last(), idOf(2, 8), idOf(2, 10)} {
		for size := range 4 {
			text := chars("mno"[:size])
			for _, row := range rows(text, 2, 'a', me()) {
				row = byHand(row, text)
				for _, later := range rows(plain(text, row...), 2, 'A', whose) {
					if wantSelective(t, text, row, later) {
						count[1]++
					} else {
						count[0]++
					}
				}
			}
		}
	}
	if count[0] == 0 || count[1] == 0 {
		t.Errorf("of both kinds: %v", count)
	}
}

// P9.3: behind several later rows of several clients.
func TestSelectiveManyRows(t *testing.T) {
	text := chars("mn")
	for _, row := range rows(text, 3, 'a', me()) {
		row = byHand(row, text)
		behind := plain(text, row...)
		for _, b := range rows(behind, 1, 'A', last()) {
			for _, c := range rows(plain(behind, b...), 1, 'S', first()) {
				wantSelective(t, text, row, b, c)
				wantSelective(t, text, row, b, nil, c, []api.Unit{ins(0, 'Z', first()), nop(last())})
			}
		}
	}
}

// P9.3: a long row behind long ones.
func TestSelectiveLong(t *testing.T) {
	var text []api.Char
	for i := range 300 {
		text = append(text, api.Char(0x100+i))
	}
	made := func(long, step, many int, brings api.Char, id api.Id) ([]api.Unit, int) {
		var row []api.Unit
		for i := range many {
			pos := (i*step + 3) % long
			if i%5 < 2 {
				row, long = append(row, del(pos, 0, id)), long-1
			} else {
				row, long = append(row, ins(pos, brings+api.Char(i), id)), long+1
			}
		}
		return row, long
	}
	row, long := made(len(text), 7, api.MaxUnits, 0x1000, me())
	row = filled(t, row, text)
	b, long := made(long, 31, 60, 0x2000, first())
	c, _ := made(long, 101, 60, 0x3000, last())
	if !wantSelective(t, text, row, b, c) {
		t.Error("the later rows took out nothing of what the row brought")
	}
	wantRow(t, "as one row", Back(row, again(), b, c), Back(row, again(), slices.Concat(b, c)))
}

// P9.2, P9.3: what takes a row back is a row itself, that can be filled and taken back.
func TestBackOfBack(t *testing.T) {
	text := chars("mn")
	for _, row := range rows(text, 2, 'a', me()) {
		row = byHand(row, text)
		behind := plain(text, row...)
		for _, later := range rows(behind, 2, 'A', last()) {
			now := applied(t, behind, later)
			back := filled(t, Back(row, again(), later), now)
			then := applied(t, now, back)
			there := Back(back, idOf(2, 11))
			wantChars(t, "back and there", applied(t, then, there), now)
			if back = filled(t, there, then); len(back) != len(there) || slices.ContainsFunc(back, func(u api.Unit) bool { return u.Id != idOf(2, 11) }) {
				t.Errorf("what takes %v back: got %v", row, back)
			}
		}
	}
}

// spoil writes over all that a list has, and into the room behind it.
func spoil[T any](list []T, x T) {
	for i := range list {
		list[i] = x
	}
	_ = append(list, x, x)
}

// P9.1, R3: what is given stays, also the room behind it, and what is told is new memory.
func TestMemory(t *testing.T) {
	a, b, id := me(), last(), again()
	roomText := chars("abcdefgh")
	roomRow := []api.Unit{ins(0, 'x', a), ins(1, 'y', a), ins(2, 'z', a), del(3, 'a', a), nop(a), nop(a)}
	roomLater := []api.Unit{ins(0, 'v', b), del(1, 'w', b), nop(b), nop(b), nop(b)}
	keptText, keptRow, keptLater := slices.Clone(roomText), slices.Clone(roomRow), slices.Clone(roomLater)
	for size := range 6 {
		text, row, later := roomText[:size+1], roomRow[:size], roomLater[:min(size, 3)]
		rowsGiven := [][]api.Unit{later, later[:0]}
		tell := func() [][]api.Unit {
			return [][]api.Unit{filled(t, row, text), Inverse(row, id), Clean(row), Back(row, id), Back(row, id, rowsGiven...)}
		}
		once, other := tell(), tell()
		var want [][]api.Unit
		for _, list := range other {
			want = append(want, slices.Clone(list))
		}
		for _, list := range once {
			spoil(list, ins(9, '!', b))
		}
		wantChars(t, "the text that was given", roomText, keptText)
		wantRow(t, "the row that was given", roomRow, keptRow)
		wantRow(t, "the later row that was given", roomLater, keptLater)
		if len(rowsGiven) != 2 || len(rowsGiven[0]) != len(later) || len(rowsGiven[1]) != 0 {
			t.Errorf("the later rows that were given: %v", rowsGiven)
		}
		spoil(text, '?')
		spoil(row, del(9, '?', b))
		spoil(later, del(9, '?', a))
		for i := range other {
			wantRow(t, "another answer", other[i], want[i])
		}
		copy(roomText, keptText)
		copy(roomRow, keptRow)
		copy(roomLater, keptLater)
	}
}

// R3: a row behind itself and behind parts of itself.
func TestBackBehindItself(t *testing.T) {
	row := []api.Unit{ins(0, 'x', me()), del(1, 'y', me()), nop(me()), del(0, 'z', me())}
	kept := slices.Clone(row)
	wantRow(t, "behind itself", Back(row, again(), row, row), takesBack(kept, again(), kept, kept))
	wantRow(t, "behind parts", Back(row, again(), row[:2], row[1:]), takesBack(kept, again(), kept[:2], kept[1:]))
	wantRow(t, "what was given", row, kept)
}

// R7: what is answered hangs on what was called alone.
func TestSameAgain(t *testing.T) {
	text := chars("abcdefghij")
	for _, row := range mixed() {
		for _, later := range mixed() {
			fill, e := Fill(row, text)
			turned, clean, back := Inverse(row, again()), Clean(row), Back(row, again(), later)
			Fill(later, text[:5])
			Inverse(later, me())
			Back(later, me(), row)
			once, f := Fill(row, text)
			if e != f {
				t.Errorf("Fill(%v): got error %d, then %d", row, e, f)
			}
			wantRow(t, "Fill, once more", once, fill)
			wantRow(t, "Inverse, once more", Inverse(row, again()), turned)
			wantRow(t, "Clean, once more", Clean(row), clean)
			wantRow(t, "Back, once more", Back(row, again(), later), back)
		}
	}
}
