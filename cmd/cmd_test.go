package cmd

import (
	"math"
	"slices"
	"strings"
	"testing"

	"copybook/api"
	"copybook/wire"
)

// rich is a command, an answer, a notice with something in each place.

func richRow() []api.Unit {
	one := idOf(1, 7)
	return []api.Unit{ins(2, 0x1f600, one), del(300, 0, one), nop(last())}
}

func richOp() api.Op { return api.Op{Id: idOf(300, 1<<50), Units: richRow(), Undone: true} }

func richCmd() api.Cmd {
	return api.Cmd{Kind: api.Edit, Doc: 300, Name: "n\u00e9", Rev: 1 << 30, Pos: 200, Units: richRow()}
}

func richAnswer() api.Answer {
	return api.Answer{
		Err: 200, Doc: 5, Rev: 1 << 20, Whole: true, Text: []api.Char{'x', 0x10ffff, 0},
		Ops:   []api.Op{richOp(), {}, {Id: idOf(2, 3), Units: []api.Unit{ins(0, 'a', idOf(2, 3))}}},
		Seats: []api.Seat{{Client: 1, Pos: 2, Until: 3}, {Client: 1, Pos: 2, Until: 3}, {}},
	}
}

func richNotice() api.Notice {
	return api.Notice{Client: 4, Doc: 200, Rev: 1 << 33, Op: richOp()}
}

// goodCmds are commands that may be: the rich one, with each thing at its edges.
func goodCmds() []api.Cmd {
	out := []api.Cmd{richCmd()}
	with := func(change func(c *api.Cmd)) {
		c := richCmd()
		change(&c)
		out = append(out, c)
	}
	for kind := api.Create; kind <= api.Who; kind++ {
		with(func(c *api.Cmd) { c.Kind = kind })
		out = append(out, api.Cmd{Kind: kind})
	}
	for _, doc := range []uint32{0, 1, 127, 128, math.MaxUint32 - 1, math.MaxUint32} {
		with(func(c *api.Cmd) { c.Doc = doc })
	}
	for _, name := range goodNames() {
		with(func(c *api.Cmd) { c.Name = name })
	}
	for _, rev := range []uint64{0, 1, 127, 128, 1<<40 - 1, 1 << 40} {
		with(func(c *api.Cmd) { c.Rev = rev })
	}
	for _, pos := range []int{0, 1, 127, 128, 1<<31 - 1, 1 << 31} {
		with(func(c *api.Cmd) { c.Pos = pos })
	}
	for _, row := range goodRows() {
		with(func(c *api.Cmd) { c.Units = row })
	}
	return out
}

// wrongCmds are commands that may not be, each for one thing.
func wrongCmds() []api.Cmd {
	var out []api.Cmd
	with := func(change func(c *api.Cmd)) {
		c := richCmd()
		change(&c)
		out = append(out, c)
	}
	for _, kind := range []int{0, -1, 10, 11, 256 + api.Create, 1<<32 + api.Create, math.MinInt, math.MaxInt} {
		with(func(c *api.Cmd) { c.Kind = kind })
	}
	for _, name := range slices.Concat(longNames(), noTexts()) {
		with(func(c *api.Cmd) { c.Name = name })
	}
	for _, rev := range wrongRevs() {
		with(func(c *api.Cmd) { c.Rev = rev })
	}
	for _, pos := range wrongPlaces() {
		with(func(c *api.Cmd) { c.Pos = pos })
	}
	for _, row := range wrongRows() {
		with(func(c *api.Cmd) { c.Units = row })
	}
	return out
}

func goodAnswers() []api.Answer {
	out := []api.Answer{{}, richAnswer()}
	with := func(change func(a *api.Answer)) {
		a := richAnswer()
		change(&a)
		out = append(out, a)
	}
	for _, e := range []api.Errno{api.OK, api.ErrArg, api.ErrNone, api.ErrState, 8, 40, 127, 128, math.MaxInt - 1, math.MaxInt} {
		with(func(a *api.Answer) { a.Err = e })
		out = append(out, api.Answer{Err: e})
	}
	for _, doc := range []uint32{0, 1, 127, 128, math.MaxUint32 - 1, math.MaxUint32} {
		with(func(a *api.Answer) { a.Doc = doc })
	}
	for _, rev := range []uint64{0, 1, 127, 128, 1<<40 - 1, 1 << 40} {
		with(func(a *api.Answer) { a.Rev = rev })
	}
	for _, c := range goodChars() {
		with(func(a *api.Answer) { a.Text = []api.Char{c} })
		with(func(a *api.Answer) { a.Text = []api.Char{'a', c, 'b'} })
	}
	for _, size := range []int{0, 1, 4095, 4096} {
		with(func(a *api.Answer) { a.Text = slices.Repeat([]api.Char{'t'}, size) })
	}
	with(func(a *api.Answer) { a.Whole, a.Text = false, nil })
	with(func(a *api.Answer) { a.Whole, a.Text = false, []api.Char{} })
	for _, row := range goodRows() {
		with(func(a *api.Answer) { a.Ops[1].Units = row })
	}
	for _, id := range []api.Id{{}, idOf(0, 1), idOf(1, 0), idOf(math.MaxUint32, 0), idOf(0, math.MaxUint64), last()} {
		with(func(a *api.Answer) { a.Ops[1].Id = id })
	}
	for _, size := range []int{0, 1, 255, 256} {
		with(func(a *api.Answer) { a.Ops = slices.Repeat([]api.Op{{Id: idOf(1, 2), Undone: true}}, size) })
	}
	for _, size := range []int{0, 1, 15, 16} {
		with(func(a *api.Answer) { a.Seats = slices.Repeat([]api.Seat{{Client: 7, Pos: 8, Until: 9}}, size) })
	}
	for _, seat := range []api.Seat{{Client: math.MaxUint32}, {Pos: 1<<31 - 1}, {Pos: 1 << 31}, {Until: 1<<40 + 65}, {Until: math.MaxUint64}} {
		with(func(a *api.Answer) { a.Seats[1] = seat })
	}
	return out
}

func wrongAnswers() []api.Answer {
	var out []api.Answer
	with := func(change func(a *api.Answer)) {
		a := richAnswer()
		change(&a)
		out = append(out, a)
	}
	for _, e := range []api.Errno{-1, -2, -6, math.MinInt32, math.MinInt} {
		with(func(a *api.Answer) { a.Err = e })
		out = append(out, api.Answer{Err: e})
	}
	for _, rev := range wrongRevs() {
		with(func(a *api.Answer) { a.Rev = rev })
	}
	for _, c := range wrongChars() {
		with(func(a *api.Answer) { a.Text = []api.Char{c} })
		for at := range 3 {
			with(func(a *api.Answer) { a.Text[at] = c })
		}
		with(func(a *api.Answer) { a.Text = append(slices.Repeat([]api.Char{'t'}, 4095), c) })
	}
	for _, size := range []int{4097, 4098, 8192} {
		with(func(a *api.Answer) { a.Text = slices.Repeat([]api.Char{'t'}, size) })
	}
	for _, size := range []int{1, 2, 4096} {
		with(func(a *api.Answer) { a.Whole, a.Text = false, slices.Repeat([]api.Char{0}, size) })
	}
	for _, row := range wrongRows() {
		for at := range 3 {
			with(func(a *api.Answer) { a.Ops[at].Units = row })
		}
	}
	for _, size := range []int{257, 258, 512} {
		with(func(a *api.Answer) { a.Ops = make([]api.Op, size) })
	}
	for _, size := range []int{17, 18, 32, 272} {
		with(func(a *api.Answer) { a.Seats = make([]api.Seat, size) })
	}
	for _, pos := range wrongPlaces() {
		for at := range 3 {
			with(func(a *api.Answer) { a.Seats[at].Pos = pos })
		}
		with(func(a *api.Answer) { a.Seats = append(make([]api.Seat, 15), api.Seat{Pos: pos}) })
	}
	return out
}

func goodNotices() []api.Notice {
	out := []api.Notice{{}, richNotice()}
	with := func(change func(n *api.Notice)) {
		n := richNotice()
		change(&n)
		out = append(out, n)
	}
	for _, x := range []uint32{0, 1, 127, 128, math.MaxUint32 - 1, math.MaxUint32} {
		with(func(n *api.Notice) { n.Client = x })
		with(func(n *api.Notice) { n.Doc = x })
		with(func(n *api.Notice) { n.Op.Id = idOf(x, math.MaxUint64-uint64(x)) })
	}
	for _, rev := range []uint64{0, 1, 127, 128, 1<<40 - 1, 1 << 40} {
		with(func(n *api.Notice) { n.Rev = rev })
	}
	with(func(n *api.Notice) { n.Op.Undone = false })
	for _, row := range goodRows() {
		with(func(n *api.Notice) { n.Op.Units = row })
	}
	return out
}

func wrongNotices() []api.Notice {
	var out []api.Notice
	with := func(change func(n *api.Notice)) {
		n := richNotice()
		change(&n)
		out = append(out, n)
	}
	for _, rev := range wrongRevs() {
		with(func(n *api.Notice) { n.Rev = rev })
	}
	for _, row := range wrongRows() {
		with(func(n *api.Notice) { n.Op.Units = row })
	}
	return out
}

// wantThis puts something that may be: that is these bytes.
func wantThis[T any](t *testing.T, c calls[T], x T, want []byte) {
	t.Helper()
	b, e := c.put(x)
	if e != api.OK {
		t.Errorf("Put of the %s %v: got error %d", c.kind, x, e)
	}
	wantBytes(t, b, want)
}

// P15.1, P15.2: the chapter's examples.
func TestExamples(t *testing.T) {
	wantThis(t, commands(), api.Cmd{Kind: api.Open, Doc: 5, Rev: 7}, []byte{2, 5, 0, 7, 0, 0})
	wantThis(t, answers(), api.Answer{Err: api.ErrNone}, []byte{6, 0, 0, 0, 0, 0, 0})
	wantError(t, "command", []byte{2, 5, 0, 7, 0}, api.ErrShort)
	wantError(t, "command", []byte{0, 5, 0, 7, 0, 0}, api.ErrForm)
}

// P15.1: the bytes of things that have something in each place, thing by thing.
func TestPutBytes(t *testing.T) {
	row := []byte{3, 1, 2, 0x80, 0xec, 7, 1, 7, 2, 0xac, 2, 0, 1, 7, 0, 0, 0, 0xff, 0xff, 0xff, 0xff, 0xf, 0xff, 0xff, 0xff, 0xff, 0xff, 0xff, 0xff, 0xff, 0xff, 1}
	op := slices.Concat([]byte{0xac, 2, 0x80, 0x80, 0x80, 0x80, 0x80, 0x80, 0x80, 2, 1}, row)
	wantThis(t, commands(), richCmd(), slices.Concat([]byte{4, 0xac, 2, 3, 'n', 0xc3, 0xa9, 0x80, 0x80, 0x80, 0x80, 4, 0xc8, 1}, row))
	wantThis(t, answers(), richAnswer(), slices.Concat([]byte{0xc8, 1, 5, 0x80, 0x80, 0x40, 1, 3, 'x', 0xff, 0xff, 0x43, 0, 3}, op,
		[]byte{0, 0, 0, 0}, []byte{2, 3, 0, 1, 1, 0, 'a', 2, 3}, []byte{3, 1, 2, 3, 1, 2, 3, 0, 0, 0}))
	wantThis(t, notices(), richNotice(), slices.Concat([]byte{4, 0xc8, 1, 0x80, 0x80, 0x80, 0x80, 0x20}, op))
}

// P15.1, P15.4: what may be, each thing at its edges, has its bytes, and is parsed as it was.
func TestPut(t *testing.T) {
	for _, c := range goodCmds() {
		commands().wantPut(t, c, api.OK)
	}
	for _, a := range goodAnswers() {
		answers().wantPut(t, a, api.OK)
	}
	for _, n := range goodNotices() {
		notices().wantPut(t, n, api.OK)
	}
}

// wantBack puts things that may be, and parses the bytes: each is as it was.
func wantBack[T any](t *testing.T, c calls[T], good []T, same func(a, b T) bool) {
	t.Helper()
	for _, x := range good {
		b, _ := c.put(x)
		if got, e := c.parse(b); e != api.OK || !same(got, x) || !c.like(got, x) {
			t.Errorf("the %s %v: got %v, error %d", c.kind, x, got, e)
		}
	}
}

// P15.4: what was put is parsed as it was.
func TestBack(t *testing.T) {
	wantBack(t, commands(), goodCmds(), SameCmd)
	wantBack(t, answers(), goodAnswers(), SameAnswer)
	wantBack(t, notices(), goodNotices(), notices().like)
}

// P15.1: each thing that keeps one from being a command, an answer, a notice.
func TestPutWrong(t *testing.T) {
	for _, c := range wrongCmds() {
		commands().wantPut(t, c, api.ErrArg)
	}
	commands().wantPut(t, api.Cmd{}, api.ErrArg)
	for _, a := range wrongAnswers() {
		answers().wantPut(t, a, api.ErrArg)
	}
	for _, n := range wrongNotices() {
		notices().wantPut(t, n, api.ErrArg)
	}
}

// P15.1: the greatest ones that may be.
func TestPutGreatest(t *testing.T) {
	row := slices.Repeat([]api.Unit{del(1<<31, 0x10ffff, last())}, 256)
	commands().wantPut(t, api.Cmd{Kind: api.Who, Doc: math.MaxUint32, Name: strings.Repeat("\U0010ffff", 16), Rev: 1 << 40, Pos: 1 << 31, Units: row}, api.OK)
	op := api.Op{Id: last(), Units: row, Undone: true}
	notices().wantPut(t, api.Notice{Client: math.MaxUint32, Doc: math.MaxUint32, Rev: 1 << 40, Op: op}, api.OK)
	answers().wantPut(t, api.Answer{
		Err: math.MaxInt, Doc: math.MaxUint32, Rev: 1 << 40, Whole: true,
		Text:  slices.Repeat([]api.Char{0x10ffff}, 4096),
		Ops:   slices.Repeat([]api.Op{op}, 256),
		Seats: slices.Repeat([]api.Seat{{Client: math.MaxUint32, Pos: 1 << 31, Until: math.MaxUint64}}, 16),
	}, api.OK)
}

// P15.1: an Op is written as in an answer, and read so, one behind the other, with other things around.
func TestOps(t *testing.T) {
	var ops []api.Op
	for i, row := range goodRows() {
		ops = append(ops, api.Op{Id: idOf(uint32(i), 1<<i), Units: row, Undone: i%3 == 0})
	}
	ops = append(ops, api.Op{}, richOp(), api.Op{Id: last(), Undone: true})
	var w wire.Writer
	want := number(300)
	w.Num(300)
	for _, o := range ops {
		WriteOp(&w, o)
		want = append(want, opBytes(o)...)
	}
	w.Num(500)
	want = append(want, number(500)...)
	if got := w.Out(); string(got) != string(want) {
		t.Errorf("WriteOp: got %x, want %x", got, want)
	}
	r := wire.New(want)
	r.Num()
	for _, o := range ops {
		if got := ReadOp(r); string(opBytes(got)) != string(opBytes(o)) {
			t.Errorf("ReadOp: got %v, want %v", got, o)
		}
	}
	if n, e := r.Num(), r.End(); n != 500 || e != api.OK {
		t.Errorf("behind them: got %d, error %d", n, e)
	}
}

// P15.1: WriteOp asks nothing: of what may not be what is below 0 is written as 0, as weave says, and so it is refused where it is read, or is another one.
func TestWriteOpAsksNothing(t *testing.T) {
	for _, row := range wrongRows() {
		o := api.Op{Id: idOf(1, 2), Units: row}
		var w wire.Writer
		WriteOp(&w, o)
		for i, u := range row {
			u.Kind, u.Pos, u.Char = max(u.Kind, 0), max(u.Pos, 0), max(u.Char, 0)
			o.Units = slices.Clone(o.Units)
			o.Units[i] = u
		}
		if got := w.Out(); string(got) != string(opBytes(o)) {
			t.Errorf("WriteOp(%v): got %x, want %x", o, short(got), short(opBytes(o)))
		}
	}
}

// P15.1: no writer, no reader.
func TestOpOfNone(t *testing.T) {
	WriteOp(nil, richOp())
	for _, r := range []*wire.Reader{nil, {}} {
		if got := ReadOp(r); len(got.Units) > 0 || got.Id != (api.Id{}) || got.Undone || r.Err() != api.ErrNil {
			t.Errorf("ReadOp: got %v, error %d", got, r.Err())
		}
	}
}

// wantNoOp reads an Op from bytes, which is none, behind that error.
func wantNoOp(t *testing.T, b []byte, want api.Errno) {
	t.Helper()
	r := wire.New(b)
	got := ReadOp(r)
	if r.Err() != want || r.Left() != 0 {
		t.Errorf("ReadOp of %x: got error %d, %d left, want error %d", short(b), r.Err(), r.Left(), want)
	}
	if len(got.Units) > 0 || got.Id != (api.Id{}) || got.Undone {
		t.Errorf("ReadOp of %x: got %v beside an error", short(b), got)
	}
}

// P15.1: behind an error ReadOp tells none, whichever thing it is that is wrong, and wherever the bytes end.
func TestReadOpErrors(t *testing.T) {
	b := opBytes(richOp())
	for size := range b {
		wantNoOp(t, b[:size], api.ErrShort)
	}
	wantNoOp(t, numbers(1<<32, 1, 0, 0), api.ErrLong)
	wantNoOp(t, numbers(1, 1, 2, 0), api.ErrForm)
	wantNoOp(t, numbers(1, 1, 1, 257), api.ErrLong)
	wantNoOp(t, append(numbers(1, 1, 1), rowBytes(nops(257))...), api.ErrLong)
	wantNoOp(t, numbers(1, 1, 1, 1, 3, 0, 0, 1, 1), api.ErrForm)
	wantNoOp(t, numbers(1, 1, 1, 1, 0, 1, 0, 1, 1), api.ErrForm)
	wantNoOp(t, numbers(1, 1, 1, 1, 1, 1<<31+1, 'a', 1, 1), api.ErrLong)
	wantNoOp(t, numbers(1, 1, 1, 1, 1, 1, 0xd800, 1, 1), api.ErrForm)
	wantNoOp(t, numbers(1, 1, 1, 1, 1, 1, 0x110000, 1, 1), api.ErrLong)
	wantNoOp(t, numbers(1, 1, 1, 1, 1, 1, 'a', 1<<32, 1), api.ErrLong)
	wantNoOp(t, []byte{1, 0x80, 0}, api.ErrForm)
}

// P15.1: a reader that has an error already has it still, and tells no Op.
func TestReadOpBehindError(t *testing.T) {
	for _, e := range []api.Errno{api.ErrLong, api.ErrShort, api.ErrForm, api.ErrText, api.ErrState} {
		r := wire.New(opBytes(richOp()))
		r.Fail(e)
		got := ReadOp(r)
		if len(got.Units) > 0 || got.Id != (api.Id{}) || got.Undone || r.Err() != e {
			t.Errorf("got %v, error %d, want none, error %d", got, r.Err(), e)
		}
	}
	// An Op that may not be keeps the next one from being read.
	r := wire.New(append(numbers(1, 1, 1, 1, 0, 1, 0, 1, 1), opBytes(richOp())...))
	ReadOp(r)
	if got := ReadOp(r); len(got.Units) > 0 || got.Id != (api.Id{}) || r.End() != api.ErrForm {
		t.Errorf("got %v, error %d", got, r.Err())
	}
}
