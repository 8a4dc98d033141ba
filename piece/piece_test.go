package piece

import (
	"math"
	"slices"
	"testing"

	"copybook/api"
)

// origin is where a code point of a text stands: a buffer, and a place in it.
type origin struct {
	second bool
	at     int
}

// plain is a table by the chapter's words: both buffers, and a plain row that tells of each code point of the text where it stands.
type plain struct {
	first, second []api.Char
	row           []origin
}

func newPlain(text []api.Char) *plain {
	m := &plain{first: slices.Clone(text)}
	for i := range text {
		m.row = append(m.row, origin{false, i})
	}
	return m
}

func (m *plain) insert(pos int, l []api.Char) {
	var come []origin
	for i := range l {
		come = append(come, origin{true, len(m.second) + i})
	}
	m.second = append(m.second, l...)
	m.row = slices.Insert(m.row, pos, come...)
}

func (m *plain) remove(pos, n int) { m.row = slices.Delete(m.row, pos, pos+n) }

func (m *plain) text() []api.Char {
	var out []api.Char
	for _, o := range m.row {
		if o.second {
			out = append(out, m.second[o.at])
		} else {
			out = append(out, m.first[o.at])
		}
	}
	return out
}

// pieces goes over the row and begins a new one wherever the next code point does not stand just behind.
func (m *plain) pieces() []Piece {
	var out []Piece
	for i, o := range m.row {
		if i > 0 && m.row[i-1] == (origin{o.second, o.at - 1}) {
			out[len(out)-1].Len++
		} else {
			out = append(out, Piece{o.second, o.at, 1})
		}
	}
	return out
}

// chance makes a row of numbers that looks like chance, and is the same each time.
func chance(seed uint64) func(below int) int {
	x := seed
	return func(below int) int {
		x = x*6364136223846793005 + 1442695040888963407
		return int(x >> 33 % uint64(below))
	}
}

func chars(s string) []api.Char {
	var out []api.Char
	for _, r := range s {
		out = append(out, api.Char(r))
	}
	return out
}

func wantErr(t *testing.T, what string, got, want api.Errno) {
	t.Helper()
	if got != want {
		t.Errorf("%s: got error %d, want %d", what, got, want)
	}
}

func wantChars(t *testing.T, what string, got, want []api.Char) {
	t.Helper()
	if !slices.Equal(got, want) {
		t.Errorf("%s: got %x, want %x", what, got, want)
	}
}

// want: the table has that text and these pieces.
func want(t *testing.T, what string, x *Table, text []api.Char, pieces ...Piece) {
	t.Helper()
	wantChars(t, what, x.Text(), text)
	if got := x.Pieces(); !slices.Equal(got, pieces) {
		t.Errorf("%s: got pieces %v, want %v", what, got, pieces)
	}
	if got := x.Len(); got != len(text) {
		t.Errorf("%s: got Len %d, want %d", what, got, len(text))
	}
}

func wantPlain(t *testing.T, what string, x *Table, m *plain) {
	t.Helper()
	want(t, what, x, m.text(), m.pieces()...)
}

func insert(t *testing.T, x *Table, pos int, s string) {
	t.Helper()
	wantErr(t, "Insert", x.Insert(pos, chars(s)), api.OK)
}

func remove(t *testing.T, x *Table, pos, n int) {
	t.Helper()
	wantErr(t, "Delete", x.Delete(pos, n), api.OK)
}

// built hands on tables of many forms, each with its plain one: none, one, and many pieces, of both buffers, with what was taken out between.
func built() map[string]func() (*Table, *plain) {
	start := func(s string, calls ...func(*Table, *plain)) func() (*Table, *plain) {
		return func() (*Table, *plain) {
			x, m := New(chars(s)), newPlain(chars(s))
			for _, call := range calls {
				call(x, m)
			}
			return x, m
		}
	}
	come := func(pos int, s string) func(*Table, *plain) {
		return func(x *Table, m *plain) { x.Insert(pos, chars(s)); m.insert(pos, chars(s)) }
	}
	gone := func(pos, n int) func(*Table, *plain) {
		return func(x *Table, m *plain) { x.Delete(pos, n); m.remove(pos, n) }
	}
	return map[string]func() (*Table, *plain){
		"empty":          start(""),
		"of one":         start("a"),
		"of five":        start("hello"),
		"all added":      start("", come(0, "hello")),
		"all gone":       start("hello", come(2, "xyz"), gone(0, 8)),
		"in the middle":  start("hello", come(2, "xyz")),
		"at both ends":   start("hello", come(5, "xyz"), come(0, "uvw")),
		"many":           start("hello", come(2, "xyz"), come(3, "uv"), gone(6, 1), come(7, "é")),
		"parted":         start("hello world", gone(3, 2), come(3, "p!"), gone(6, 3), come(5, "  "), gone(0, 1)),
		"of single ones": start("abcdef", come(1, "u"), come(3, "v"), come(5, "w"), come(7, "x"), gone(8, 1)),
	}
}

// P5.1, P5.2, P5.3: the chapter's examples.
func TestExamples(t *testing.T) {
	x := New(chars("hello"))
	want(t, "New", x, chars("hello"), Piece{false, 0, 5})
	insert(t, x, 5, " a")
	insert(t, x, 7, "b")
	want(t, "the first row", x, chars("hello ab"), Piece{false, 0, 5}, Piece{true, 0, 3})
	remove(t, x, 1, 3)
	want(t, "the second row", x, chars("ho ab"), Piece{false, 0, 1}, Piece{false, 4, 1}, Piece{true, 0, 3})
	insert(t, x, 1, "ell")
	want(t, "the third row", x, chars("hello ab"), Piece{false, 0, 1}, Piece{true, 3, 3}, Piece{false, 4, 1}, Piece{true, 0, 3})
}

// P5.1: a new table is of one piece, of none if it is empty.
func TestNew(t *testing.T) {
	for _, none := range [][]api.Char{nil, {}} {
		x := New(none)
		if x == nil {
			t.Fatal("New of no text: no table")
		}
		want(t, "New of no text", x, nil)
		wantErr(t, "Insert", x.Insert(0, chars("a")), api.OK)
		want(t, "behind it", x, chars("a"), Piece{true, 0, 1})
	}
	for size := 1; size < 70; size++ {
		text := make([]api.Char, size)
		for i := range text {
			text[i] = api.Char(i * 1000)
		}
		want(t, "New", New(text), text, Piece{false, 0, size})
	}
	// Which code points may be is not this layer's.
	odd := []api.Char{-1, 0, 0xd800, 0x110000, math.MinInt32, math.MaxInt32}
	x := New(odd)
	wantErr(t, "Insert", x.Insert(3, odd), api.OK)
	want(t, "any code points", x, slices.Insert(slices.Clone(odd), 3, odd...), Piece{false, 0, 3}, Piece{true, 0, 6}, Piece{false, 3, 3})
}

// P5.2: at each place of each table.
func TestInsert(t *testing.T) {
	for name, build := range built() {
		_, m := build()
		for pos := range len(m.row) + 1 {
			for _, s := range []string{"", "Q", "QRS"} {
				x, m := build()
				insert(t, x, pos, s)
				m.insert(pos, chars(s))
				wantPlain(t, name+", Insert "+s, x, m)
				// what is added to next tells that the second buffer has all of it
				insert(t, x, 0, "T")
				m.insert(0, chars("T"))
				wantPlain(t, name+", once more", x, m)
			}
		}
	}
}

// P5.3: at each place of each table, from none to all that is left.
func TestDeleteAndRead(t *testing.T) {
	for name, build := range built() {
		_, m := build()
		for pos := range len(m.row) + 1 {
			for n := range len(m.row) - pos + 1 {
				x, m := build()
				got, e := x.Read(pos, n)
				wantErr(t, name+", Read", e, api.OK)
				wantChars(t, name+", Read", got, m.text()[pos:pos+n])
				wantPlain(t, name+", behind Read", x, m)
				remove(t, x, pos, n)
				m.remove(pos, n)
				wantPlain(t, name+", Delete", x, m)
			}
		}
	}
}

// P5.2, P5.3: ErrRange, nothing beside it, and nothing happens.
func TestRange(t *testing.T) {
	for name, build := range built() {
		x, m := build()
		size := len(m.row)
		for _, pos := range []int{-1, -2, math.MinInt, size + 1, size + 2, 1 << 40, math.MaxInt} {
			for _, l := range [][]api.Char{nil, {}, chars("a"), chars("abc")} {
				wantErr(t, name+", Insert", x.Insert(pos, l), api.ErrRange)
			}
			for _, n := range []int{0, 1, 2, -1, size, math.MaxInt, math.MinInt} {
				wantNone(t, name, x, pos, n, api.ErrRange)
			}
		}
		for pos := range size + 1 {
			left := size - pos
			for _, n := range []int{-1, -2, math.MinInt, left + 1, left + 2, 1 << 40, math.MaxInt, math.MaxInt - pos} {
				wantNone(t, name, x, pos, n, api.ErrRange)
			}
		}
		wantPlain(t, name+", behind errors", x, m)
		insert(t, x, 0, "z")
		m.insert(0, chars("z"))
		wantPlain(t, name+", behind errors and Insert", x, m)
	}
}

// wantNone: neither Delete nor Read is done, for that error.
func wantNone(t *testing.T, what string, x *Table, pos, n int, e api.Errno) {
	t.Helper()
	wantErr(t, what+", Delete", x.Delete(pos, n), e)
	got, read := x.Read(pos, n)
	wantErr(t, what+", Read", read, e)
	if len(got) > 0 {
		t.Errorf("%s, Read(%d, %d): got %x beside an error", what, pos, n, got)
	}
}

// P5.1, P5.2, P5.3: no table tells nothing, and ErrNil ahead of ErrRange.
func TestNone(t *testing.T) {
	for _, x := range []*Table{nil, {}, new(Table)} {
		for range 2 {
			for _, pos := range []int{0, -1, 1, math.MinInt, math.MaxInt} {
				for _, l := range [][]api.Char{nil, {}, chars("ab")} {
					wantErr(t, "Insert", x.Insert(pos, l), api.ErrNil)
				}
				for _, n := range []int{0, -1, 1, math.MinInt, math.MaxInt} {
					wantNone(t, "none", x, pos, n, api.ErrNil)
				}
			}
			want(t, "none", x, nil)
			if got := x.Copy(); got != nil {
				t.Error("Copy of none is a table")
			}
			x.Flatten()
		}
	}
}

// P5.1: Flatten makes it New of its text: one piece, the first buffer's, and a second one that is empty again.
func TestFlatten(t *testing.T) {
	for name, build := range built() {
		x, m := build()
		m = newPlain(m.text())
		for range 2 {
			x.Flatten()
			wantPlain(t, name+", Flatten", x, m)
		}
		if len(x.Pieces()) > 1 {
			t.Errorf("%s: %d pieces", name, len(x.Pieces()))
		}
		end := len(m.row)
		insert(t, x, end, "xy")
		m.insert(end, chars("xy"))
		wantPlain(t, name+", Insert behind Flatten", x, m)
		remove(t, x, end/2, 2)
		m.remove(end/2, 2)
		wantPlain(t, name+", Delete behind Flatten", x, m)
	}
}

// P5.1: a copy has the same buffers and pieces, and lives apart.
func TestCopy(t *testing.T) {
	for name, build := range built() {
		x, m := build()
		_, n := build()
		y := x.Copy()
		if y == x || y == nil {
			t.Fatal(name, "the copy is no table of its own")
		}
		if y.second == x.second {
			t.Error(name, "both add to one buffer, which two goroutines may not")
		}
		wantPlain(t, name+", the copy", y, m)
		end := len(m.row)
		insert(t, x, end, "xyz")
		m.insert(end, chars("xyz"))
		wantPlain(t, name+", the copy, untouched", y, n)
		insert(t, y, end, "uvw")
		n.insert(end, chars("uvw"))
		wantPlain(t, name+", the copy, typed on", y, n)
		wantPlain(t, name+", the first, typed on", x, m)
		remove(t, y, end/2, 3)
		n.remove(end/2, 3)
		wantPlain(t, name+", the first, untouched", x, m)
		z := y.Copy()
		y.Flatten()
		wantPlain(t, name+", a copy's copy", z, n)
		wantPlain(t, name+", the first, at last", x, m)
	}
}

// P5.1, P5.4: a table and its copy, by Copy or as a value, do not lay their code points over each other's, however much room is left behind the second buffer.
func TestApart(t *testing.T) {
	ways := map[string]func(*Table) *Table{
		"Copy":    (*Table).Copy,
		"a value": func(x *Table) *Table { y := *x; return &y },
	}
	for how, copied := range ways {
		for size := range 40 {
			x, m := New(chars("ab")), newPlain(chars("ab"))
			for i := range size {
				l := []api.Char{api.Char(i)}
				wantErr(t, "Insert", x.Insert(i, l), api.OK)
				m.insert(i, l)
			}
			y := copied(x)
			n := &plain{slices.Clone(m.first), slices.Clone(m.second), slices.Clone(m.row)}
			insert(t, x, size, "u")
			m.insert(size, chars("u"))
			insert(t, y, size, "v")
			n.insert(size, chars("v"))
			insert(t, x, size+1, "w")
			m.insert(size+1, chars("w"))
			remove(t, y, 0, 1)
			n.remove(0, 1)
			wantPlain(t, how+", the first", x, m)
			wantPlain(t, how+", the other", y, n)
			wantPlain(t, how+", the first's copy", x.Copy(), m)
		}
	}
}

// R3: what is given stays and is not kept; what is told is new memory, and the room behind it too.
func TestMemory(t *testing.T) {
	room := chars("hello world")
	x := New(room[:5])
	wantChars(t, "what was given", room, chars("hello world"))
	room[0] = 'X'
	more := chars("abcdef")
	wantErr(t, "Insert", x.Insert(2, more[:3]), api.OK)
	insert(t, x, 5, "z")
	wantChars(t, "what was given", more, chars("abcdef"))
	more[0], more[3] = 'X', 'X'
	text := "heabczllo"
	pieces := []Piece{{false, 0, 2}, {true, 0, 4}, {false, 2, 3}}
	want(t, "given is not kept", x, chars(text), pieces...)
	for pos := range len(text) {
		for n := range len(text) - pos + 1 {
			l, e := x.Read(pos, n)
			wantErr(t, "Read", e, api.OK)
			spoil(l)
			want(t, "Read is new memory", x, chars(text), pieces...)
		}
	}
	spoil(x.Text())
	told := x.Pieces()
	for i := range told {
		told[i] = Piece{true, 7, 7}
	}
	_ = append(told, Piece{true, 7, 7})
	want(t, "told is new memory", x, chars(text), pieces...)
	first, second := x.Text(), x.Pieces()
	insert(t, x, 6, "y")
	remove(t, x, 0, 4)
	x.Flatten()
	spoil(x.Text())
	wantChars(t, "what was told", first, chars(text))
	if !slices.Equal(second, pieces) {
		t.Errorf("what was told: got %v, want %v", second, pieces)
	}
}

func spoil(l []api.Char) {
	for i := range l {
		l[i] = -7
	}
	_ = append(l, -7, -7, -7)
}

// P5.2, P5.3: neighbours that follow each other are one again, of both buffers, and over more than one seam.
func TestJoined(t *testing.T) {
	x := New(chars("hello"))
	insert(t, x, 2, "xyz")
	remove(t, x, 2, 3)
	want(t, "the first buffer's", x, chars("hello"), Piece{false, 0, 5})
	insert(t, x, 5, "abcd")
	insert(t, x, 7, "--")
	want(t, "parted", x, chars("helloab--cd"), Piece{false, 0, 5}, Piece{true, 3, 2}, Piece{true, 7, 2}, Piece{true, 5, 2})
	remove(t, x, 7, 1)
	want(t, "one is left between", x, chars("helloab-cd"), Piece{false, 0, 5}, Piece{true, 3, 2}, Piece{true, 8, 1}, Piece{true, 5, 2})
	remove(t, x, 7, 1)
	want(t, "the second buffer's", x, chars("helloabcd"), Piece{false, 0, 5}, Piece{true, 3, 4})
	insert(t, x, 9, "e")
	want(t, "what is just behind in the text alone", x, chars("helloabcde"), Piece{false, 0, 5}, Piece{true, 3, 4}, Piece{true, 9, 1})
	insert(t, x, 10, "f")
	want(t, "what is just behind in both", x, chars("helloabcdef"), Piece{false, 0, 5}, Piece{true, 3, 4}, Piece{true, 9, 2})
}

// P5.2: pieces at the same places of different buffers, or just behind in another one, are two.
func TestNotJoined(t *testing.T) {
	x := New(chars("abc"))
	insert(t, x, 3, "uvwxyz")
	want(t, "behind", x, chars("abcuvwxyz"), Piece{false, 0, 3}, Piece{true, 0, 6})
	remove(t, x, 3, 3)
	want(t, "just behind, of the other one", x, chars("abcxyz"), Piece{false, 0, 3}, Piece{true, 3, 3})
	x = New(chars("abcdef"))
	insert(t, x, 0, "uvw")
	remove(t, x, 3, 3)
	want(t, "just behind, of the first one", x, chars("uvwdef"), Piece{true, 0, 3}, Piece{false, 3, 3})
	remove(t, x, 1, 3)
	want(t, "with a gap", x, chars("uef"), Piece{true, 0, 1}, Piece{false, 4, 2})
	x = New(nil)
	insert(t, x, 0, "b")
	insert(t, x, 0, "a")
	want(t, "the other way round", x, chars("ab"), Piece{true, 1, 1}, Piece{true, 0, 1})
}

// P5.4: rows of calls, against a plain row. P5.5: how many pieces more each makes.
func TestRows(t *testing.T) {
	for seed := range 200 {
		next := chance(uint64(seed))
		text := make([]api.Char, next(30))
		for i := range text {
			text[i] = api.Char(next(0x110000))
		}
		x, m := New(text), newPlain(text)
		at := 0
		for range 120 {
			ahead, size := len(x.Pieces()), len(m.row)
			switch next(5) {
			case 0, 1:
				at = next(size + 1)
				fallthrough
			case 2: // it may be typed on
				at = min(at, size)
				l := make([]api.Char, next(5))
				for i := range l {
					l[i] = api.Char(next(0x110000))
				}
				wantErr(t, "Insert", x.Insert(at, l), api.OK)
				m.insert(at, l)
				at += len(l)
				wantMore(t, "Insert", x, ahead, 2)
			default:
				pos := next(size + 1)
				n := next(min(size-pos, 9) + 1)
				remove(t, x, pos, n)
				m.remove(pos, n)
				wantMore(t, "Delete", x, ahead, 1)
			}
			wantPlain(t, "a row of calls", x, m)
			if t.Failed() {
				t.FailNow()
			}
		}
	}
}

func wantMore(t *testing.T, what string, x *Table, ahead, most int) {
	t.Helper()
	if got := len(x.Pieces()); got > ahead+most {
		t.Errorf("%s: %d pieces, of %d", what, got, ahead)
	}
}

// P5.4: the second buffer has all that was ever inserted, in order, also what is gone: what is inserted next stands behind all of it.
func TestSecondBuffer(t *testing.T) {
	x := New(chars("ab"))
	all := 0
	for i := range 50 {
		insert(t, x, 1, "xyz")
		want(t, "inserted", x, chars("axyzb"), Piece{false, 0, 1}, Piece{true, all, 3}, Piece{false, 1, 1})
		all += 3
		remove(t, x, 1, 3)
		want(t, "gone", x, chars("ab"), Piece{false, 0, 2})
		wantErr(t, "Insert of none", x.Insert(i%3, nil), api.OK)
	}
}

// P5.5: what is typed at one place is one piece, wherever the place is.
func TestTyped(t *testing.T) {
	for name, build := range built() {
		_, m := build()
		for pos := range len(m.row) + 1 {
			x, m := build()
			before := len(m.second)
			for i := range 100 {
				l := []api.Char{api.Char(1000 + i)}
				wantErr(t, "Insert", x.Insert(pos+i, l), api.OK)
				m.insert(pos+i, l)
			}
			wantPlain(t, name+", typed", x, m)
			typed := slices.IndexFunc(x.Pieces(), func(p Piece) bool {
				return p.Second && p.At <= before && p.At+p.Len == before+100
			})
			if typed < 0 {
				t.Errorf("%s, typed at %d: got %v", name, pos, x.Pieces())
			}
		}
	}
}

// P5.5: the bounds are reached: two more in the middle of a piece, one more for what is taken out there.
func TestMostPieces(t *testing.T) {
	x := New(chars("hello"))
	insert(t, x, 2, "x")
	if got := len(x.Pieces()); got != 3 {
		t.Errorf("an insertion: %d pieces", got)
	}
	x = New(chars("hello"))
	remove(t, x, 2, 1)
	if got := len(x.Pieces()); got != 2 {
		t.Errorf("a deletion: %d pieces", got)
	}
}
