package cmd

import (
	"bytes"
	"math"
	"slices"
	"strings"
	"testing"

	"copybook/api"
	"copybook/wire"
)

// otherRows are rows, no two of them the same: richRow, and such as differ from it in one thing.
func otherRows() [][]api.Unit {
	out := [][]api.Unit{richRow(), nil, richRow()[:2], richRow()[1:], append(richRow(), nop(api.Id{})), {richRow()[1], richRow()[0], richRow()[2]}}
	for at := range richRow() {
		for _, change := range []func(u *api.Unit){
			func(u *api.Unit) { u.Kind += 3 },
			func(u *api.Unit) { u.Pos++ },
			func(u *api.Unit) { u.Pos += 1 << 32 },
			func(u *api.Unit) { u.Char++ },
			func(u *api.Unit) { u.Id.Client++ },
			func(u *api.Unit) { u.Id.Req++ },
			func(u *api.Unit) { u.Id.Req ^= 1 << 40 },
		} {
			row := richRow()
			change(&row[at])
			out = append(out, row)
		}
	}
	return out
}

// otherCmds are commands, no two of them the same: some may be, and some not.
func otherCmds() []api.Cmd {
	out := []api.Cmd{{}}
	with := func(change func(c *api.Cmd)) {
		c := richCmd()
		change(&c)
		out = append(out, c)
	}
	for _, row := range otherRows() {
		with(func(c *api.Cmd) { c.Units = row })
	}
	for _, kind := range []int{-1, 0, 3, 5, 10, 1<<32 + 4} {
		with(func(c *api.Cmd) { c.Kind = kind })
	}
	for _, doc := range []uint32{0, 1, math.MaxUint32} {
		with(func(c *api.Cmd) { c.Doc = doc })
	}
	for _, name := range []string{"", "n", "N\u00e9", "n\u00e9 ", "n\u00ea", "ne\u0301", "\xff", strings.Repeat("n", 65)} {
		with(func(c *api.Cmd) { c.Name = name })
	}
	for _, rev := range []uint64{0, 1, 1<<30 + 1, 1 << 62, 1<<62 + 1<<30} {
		with(func(c *api.Cmd) { c.Rev = rev })
	}
	for _, pos := range []int{-1, 0, 201, 200 + 1<<32} {
		with(func(c *api.Cmd) { c.Pos = pos })
	}
	return out
}

// otherAnswers are answers, no two of them the same.
func otherAnswers() []api.Answer {
	out := []api.Answer{{}}
	with := func(change func(a *api.Answer)) {
		a := richAnswer()
		change(&a)
		out = append(out, a)
	}
	with(func(a *api.Answer) {})
	for _, e := range []api.Errno{-1, api.OK, api.ErrArg, 200 + 1<<32} {
		with(func(a *api.Answer) { a.Err = e })
	}
	with(func(a *api.Answer) { a.Doc++ })
	with(func(a *api.Answer) { a.Rev++ })
	with(func(a *api.Answer) { a.Rev += 1 << 40 })
	with(func(a *api.Answer) { a.Whole = false })
	for at := range 3 {
		with(func(a *api.Answer) { a.Text[at]++ })
		with(func(a *api.Answer) { a.Text[at] ^= 1 << 30 })
	}
	with(func(a *api.Answer) { a.Text = nil })
	with(func(a *api.Answer) { a.Text = a.Text[:2] })
	with(func(a *api.Answer) { a.Text = a.Text[1:] })
	with(func(a *api.Answer) { a.Text = append(a.Text, 0) })
	with(func(a *api.Answer) { slices.Reverse(a.Text) })
	for at := range 3 {
		with(func(a *api.Answer) { a.Ops[at].Id.Client++ })
		with(func(a *api.Answer) { a.Ops[at].Id.Req++ })
		with(func(a *api.Answer) { a.Ops[at].Undone = !a.Ops[at].Undone })
	}
	for _, row := range otherRows()[1:] {
		with(func(a *api.Answer) { a.Ops[0].Units = row })
	}
	with(func(a *api.Answer) { a.Ops[2].Units = richRow() })
	with(func(a *api.Answer) { a.Ops = nil })
	with(func(a *api.Answer) { a.Ops = a.Ops[:2] })
	with(func(a *api.Answer) { a.Ops = a.Ops[1:] })
	with(func(a *api.Answer) { a.Ops = append(a.Ops, api.Op{}) })
	with(func(a *api.Answer) { slices.Reverse(a.Ops) })
	for at := range 3 {
		with(func(a *api.Answer) { a.Seats[at].Client++ })
		with(func(a *api.Answer) { a.Seats[at].Pos++ })
		with(func(a *api.Answer) { a.Seats[at].Pos -= 1 << 32 })
		with(func(a *api.Answer) { a.Seats[at].Until++ })
		with(func(a *api.Answer) { a.Seats[at].Until ^= 1 << 63 })
	}
	with(func(a *api.Answer) { a.Seats = nil })
	with(func(a *api.Answer) { a.Seats = a.Seats[:2] })
	with(func(a *api.Answer) { a.Seats = a.Seats[1:] })
	with(func(a *api.Answer) { a.Seats = append(a.Seats, api.Seat{}) })
	return out
}

// cloned has the same in memory of its own.
func cloned(a api.Answer) api.Answer {
	a.Text, a.Ops, a.Seats = slices.Clone(a.Text), slices.Clone(a.Ops), slices.Clone(a.Seats)
	for i := range a.Ops {
		a.Ops[i].Units = slices.Clone(a.Ops[i].Units)
	}
	return a
}

// P15.3: two commands are the same just if they have all the same, whichever thing it is that differs, and whether they may be or not.
func TestSameCmd(t *testing.T) {
	for i, a := range otherCmds() {
		for j, b := range otherCmds() {
			if got := SameCmd(a, b); got != (i == j) {
				t.Errorf("SameCmd(%v, %v): got %v", a, b, got)
			}
		}
	}
	for _, a := range slices.Concat(goodCmds(), wrongCmds()) {
		b := a
		b.Name, b.Units = strings.Clone(a.Name), slices.Clone(a.Units)
		if !SameCmd(a, b) || !SameCmd(b, a) {
			t.Errorf("SameCmd(%v, its copy): got false", a)
		}
	}
}

// P15.3: so are two answers.
func TestSameAnswer(t *testing.T) {
	for i, a := range otherAnswers() {
		for j, b := range otherAnswers() {
			if got := SameAnswer(a, b); got != (i == j) {
				t.Errorf("SameAnswer(%v, %v): got %v", a, b, got)
			}
		}
	}
	for _, a := range slices.Concat(goodAnswers(), wrongAnswers()) {
		if b := cloned(a); !SameAnswer(a, b) || !SameAnswer(b, a) {
			t.Errorf("SameAnswer(%v, its copy): got false", a)
		}
	}
}

// P15.3, P15.1: nil and empty lists are one.
func TestEmpty(t *testing.T) {
	for _, a := range otherCmds() {
		a.Units = nil
		b := a
		b.Units = []api.Unit{}
		if !SameCmd(a, b) || !SameCmd(b, a) {
			t.Errorf("SameCmd of no units: got false")
		}
	}
	for bits := range 16 {
		a := api.Answer{Ops: []api.Op{{}}}
		b := api.Answer{Ops: []api.Op{{}}}
		if bits&1 > 0 {
			b.Text = []api.Char{}
		}
		if bits&2 > 0 {
			a.Ops, b.Ops = nil, []api.Op{}
		} else if bits&4 > 0 {
			b.Ops[0].Units = []api.Unit{}
		}
		if bits&8 > 0 {
			b.Seats = []api.Seat{}
		}
		if !SameAnswer(a, b) || !SameAnswer(b, a) {
			t.Errorf("SameAnswer(%#v, %#v): got false", a, b)
		}
		one, _ := PutAnswer(a)
		two, e := PutAnswer(b)
		if e != api.OK || !bytes.Equal(one, two) {
			t.Errorf("PutAnswer: got %x and %x, error %d", one, two, e)
		}
	}
}

// P15.1, P15.3: what is put, written or held against another is only read.
func TestGivenStays(t *testing.T) {
	c, a, n := richCmd(), richAnswer(), richNotice()
	c.Units = append(make([]api.Unit, 0, 9), c.Units...)
	a.Text = append(make([]api.Char, 0, 9), a.Text...)
	for range 2 {
		b, _ := PutCmd(c)
		clear(b)
		b, _ = PutAnswer(a)
		clear(b)
		b, _ = PutNotice(n)
		clear(b)
		var w wire.Writer
		WriteOp(&w, n.Op)
		SameCmd(c, c)
		SameAnswer(a, a)
	}
	if !commands().like(c, richCmd()) || !answers().like(a, richAnswer()) || !notices().like(n, richNotice()) {
		t.Errorf("got %v, %v, %v", c, a, n)
	}
	if c.Units[:4][3] != (api.Unit{}) || a.Text[:4][3] != 0 {
		t.Errorf("behind the lists: got %v, %v", c.Units[:4], a.Text[:4])
	}
	commands().wantPut(t, c, api.OK)
	answers().wantPut(t, a, api.OK)
	notices().wantPut(t, n, api.OK)
}

// wantKept parses bytes with so much room behind them: they stay as they are, and what was parsed does, when they do not.
func wantKept[T any](t *testing.T, c calls[T], x T, room int) {
	t.Helper()
	b := append(make([]byte, 0, len(c.bytes(x))+room), c.bytes(x)...)
	got, _ := c.parse(b)
	wantBytes(t, b, c.bytes(x))
	clear(b[:cap(b)])
	if !c.like(got, x) {
		t.Errorf("the %s: got %v, want %v", c.kind, got, x)
	}
}

// P15.2: what is parsed is only read, and not kept.
func TestParsedIsNew(t *testing.T) {
	for _, room := range []int{0, 64} {
		wantKept(t, commands(), richCmd(), room)
		wantKept(t, answers(), richAnswer(), room)
		wantKept(t, notices(), richNotice(), room)
	}
}

// P15.2: no two answers share memory, and no two lists of one do, also beyond their ends.
func TestNoneShared(t *testing.T) {
	b := answerBytes(richAnswer())
	a, _ := ParseAnswer(b)
	other, _ := ParseAnswer(b)
	for i := range a.Ops {
		for j := range a.Ops {
			row := a.Ops[j].Units
			row = append(row, nop(last()))
			clear(row)
			clear(a.Ops[j].Units)
			if i != j && !sameRow(a.Ops[i].Units, other.Ops[i].Units) {
				t.Errorf("the units of operation %d changed with those of %d", i, j)
			}
			copy(a.Ops[j].Units, other.Ops[j].Units)
		}
	}
	clear(append(a.Text, 1))
	clear(append(a.Seats, api.Seat{}))
	clear(append(a.Ops, api.Op{}))
	clear(a.Text)
	clear(a.Seats)
	clear(a.Ops)
	if !answers().like(other, richAnswer()) {
		t.Errorf("the other answer changed: %v", other)
	}
	c, _ := ParseCmd(cmdBytes(richCmd()))
	d, _ := ParseCmd(cmdBytes(richCmd()))
	clear(c.Units)
	n, _ := ParseNotice(noticeBytes(richNotice()))
	m, _ := ParseNotice(noticeBytes(richNotice()))
	clear(n.Op.Units)
	if !commands().like(d, richCmd()) || !notices().like(m, richNotice()) {
		t.Errorf("got %v, %v", d, m)
	}
	one, _ := PutCmd(d)
	two, _ := PutCmd(d)
	clear(one)
	if !bytes.Equal(two, cmdBytes(d)) {
		t.Errorf("PutCmd: got %x", two)
	}
}

func sameRow(a, b []api.Unit) bool { return bytes.Equal(rowBytes(a), rowBytes(b)) }

// P15.1, P15.2: what is told hangs on what was given alone, whatever was asked ahead of it.
func TestAlike(t *testing.T) {
	for range 3 {
		for kind, record := range records() {
			wantError(t, kind, join(record), api.OK)
			wantError(t, kind, join(record[:len(record)-1]), api.ErrShort)
			wantError(t, kind, append(join(record), 0), api.ErrLong)
		}
		commands().wantPut(t, richCmd(), api.OK)
		commands().wantPut(t, api.Cmd{}, api.ErrArg)
		answers().wantPut(t, richAnswer(), api.OK)
		answers().wantPut(t, api.Answer{Err: -1}, api.ErrArg)
		notices().wantPut(t, richNotice(), api.OK)
		notices().wantPut(t, api.Notice{Rev: 1<<40 + 1}, api.ErrArg)
	}
}
