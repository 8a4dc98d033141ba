package cmd

import (
	"encoding/binary"
	"math"
	"slices"
	"strings"
	"testing"
	"unicode/utf8"

	"copybook/api"
)

// The bytes of things, told plainly, whatever these are.

func number(n uint64) []byte { return binary.AppendUvarint(nil, n) }

func numbers(ns ...uint64) []byte {
	var out []byte
	for _, n := range ns {
		out = append(out, number(n)...)
	}
	return out
}

func counted(s string) []byte { return append(number(uint64(len(s))), s...) }

func truth(x bool) uint64 {
	if x {
		return 1
	}
	return 0
}

func rowBytes(row []api.Unit) []byte {
	out := number(uint64(len(row)))
	for _, u := range row {
		out = append(out, numbers(uint64(u.Kind), uint64(u.Pos), uint64(u.Char), uint64(u.Id.Client), u.Id.Req)...)
	}
	return out
}

func opBytes(o api.Op) []byte {
	return append(numbers(uint64(o.Id.Client), o.Id.Req, truth(o.Undone)), rowBytes(o.Units)...)
}

func cmdBytes(c api.Cmd) []byte {
	return slices.Concat(numbers(uint64(c.Kind), uint64(c.Doc)), counted(c.Name), numbers(c.Rev, uint64(c.Pos)), rowBytes(c.Units))
}

func answerBytes(a api.Answer) []byte {
	out := numbers(uint64(a.Err), uint64(a.Doc), a.Rev, truth(a.Whole), uint64(len(a.Text)))
	for _, c := range a.Text {
		out = append(out, number(uint64(c))...)
	}
	out = append(out, number(uint64(len(a.Ops)))...)
	for _, o := range a.Ops {
		out = append(out, opBytes(o)...)
	}
	out = append(out, number(uint64(len(a.Seats)))...)
	for _, s := range a.Seats {
		out = append(out, numbers(uint64(s.Client), uint64(s.Pos), s.Until)...)
	}
	return out
}

func noticeBytes(n api.Notice) []byte {
	return append(numbers(uint64(n.Client), uint64(n.Doc), n.Rev), opBytes(n.Op)...)
}

// What may be, told plainly.

func charMay(c api.Char) bool { return utf8.ValidRune(rune(c)) }

func unitMay(u api.Unit) bool {
	switch u.Kind {
	case 0:
		return u.Pos == 0 && u.Char == 0
	case 1, 2:
		return 0 <= u.Pos && u.Pos <= 2147483648 && charMay(u.Char)
	}
	return false
}

// reading reads bytes plainly: the first error counts, and nothing is read behind it.
type reading struct {
	left []byte
	err  api.Errno
}

func (r *reading) fail(e api.Errno) {
	if r.err == api.OK {
		r.err = e
	}
}

// number reads one in as few bytes as need be, up to most.
func (r *reading) number(most uint64, above api.Errno) uint64 {
	n, size := binary.Uvarint(r.left)
	switch {
	case r.err != api.OK:
		return 0
	case size == 0 && len(r.left) < 10:
		r.fail(api.ErrShort)
		return 0
	case size <= 0 || len(number(n)) != size:
		r.fail(api.ErrForm)
		return 0
	case n > most:
		r.fail(above)
		return 0
	}
	r.left = r.left[size:]
	return n
}

func (r *reading) any() uint64 { return r.number(math.MaxUint64, api.ErrLong) }

func (r *reading) upto(most uint64) uint64 { return r.number(most, api.ErrLong) }

func (r *reading) form(most uint64) uint64 { return r.number(most, api.ErrForm) }

func (r *reading) end() api.Errno {
	if len(r.left) > 0 {
		r.fail(api.ErrLong)
	}
	return r.err
}

func (r *reading) name() string {
	size := int(r.upto(64))
	if r.err == api.OK && size > len(r.left) {
		r.fail(api.ErrShort)
	}
	if r.err != api.OK {
		return ""
	}
	name := string(r.left[:size])
	r.left = r.left[size:]
	if !utf8.ValidString(name) {
		r.fail(api.ErrText)
	}
	return name
}

func (r *reading) row() []api.Unit {
	var row []api.Unit
	for n := r.upto(256); n > 0 && r.err == api.OK; n-- {
		u := api.Unit{Kind: int(r.form(2)), Pos: int(r.upto(2147483648)), Char: api.Char(r.upto(0x10ffff))}
		u.Id = api.Id{Client: uint32(r.upto(4294967295)), Req: r.any()}
		row = append(row, u)
	}
	for _, u := range row {
		if !unitMay(u) {
			r.fail(api.ErrForm)
		}
	}
	return row
}

func (r *reading) op() api.Op {
	id := api.Id{Client: uint32(r.upto(4294967295)), Req: r.any()}
	undone := r.form(1) == 1
	return api.Op{Id: id, Undone: undone, Units: r.row()}
}

func (r *reading) text(whole bool) []api.Char {
	var text []api.Char
	for n := r.upto(4096); n > 0 && r.err == api.OK; n-- {
		c := api.Char(r.upto(0x10ffff))
		if !charMay(c) {
			r.fail(api.ErrText)
		}
		text = append(text, c)
	}
	if len(text) > 0 && !whole {
		r.fail(api.ErrForm)
	}
	return text
}

func plainCmd(b []byte) (api.Cmd, api.Errno) {
	r := &reading{left: b}
	var c api.Cmd
	if c.Kind = int(r.form(9)); c.Kind == 0 {
		r.fail(api.ErrForm)
	}
	c.Doc, c.Name, c.Rev, c.Pos = uint32(r.upto(4294967295)), r.name(), r.upto(1099511627776), int(r.upto(2147483648))
	c.Units = r.row()
	if e := r.end(); e != api.OK {
		return api.Cmd{}, e
	}
	return c, api.OK
}

func plainAnswer(b []byte) (api.Answer, api.Errno) {
	r := &reading{left: b}
	var a api.Answer
	a.Err, a.Doc, a.Rev = api.Errno(r.upto(9223372036854775807)), uint32(r.upto(4294967295)), r.upto(1099511627776)
	a.Whole = r.form(1) == 1
	a.Text = r.text(a.Whole)
	for n := r.upto(256); n > 0 && r.err == api.OK; n-- {
		a.Ops = append(a.Ops, r.op())
	}
	for n := r.upto(16); n > 0 && r.err == api.OK; n-- {
		client, pos, until := uint32(r.upto(4294967295)), int(r.upto(2147483648)), r.any()
		a.Seats = append(a.Seats, api.Seat{Client: client, Pos: pos, Until: until})
	}
	if e := r.end(); e != api.OK {
		return api.Answer{}, e
	}
	return a, api.OK
}

func plainNotice(b []byte) (api.Notice, api.Errno) {
	r := &reading{left: b}
	var n api.Notice
	n.Client, n.Doc, n.Rev = uint32(r.upto(4294967295)), uint32(r.upto(4294967295)), r.upto(1099511627776)
	n.Op = r.op()
	if e := r.end(); e != api.OK {
		return api.Notice{}, e
	}
	return n, api.OK
}

// What the tests are made of.

func idOf(client uint32, req uint64) api.Id { return api.Id{Client: client, Req: req} }

func ins(pos int, c api.Char, id api.Id) api.Unit {
	return api.Unit{Kind: api.Ins, Pos: pos, Char: c, Id: id}
}

func del(pos int, c api.Char, id api.Id) api.Unit {
	return api.Unit{Kind: api.Del, Pos: pos, Char: c, Id: id}
}

func nop(id api.Id) api.Unit { return api.Unit{Id: id} }

func nops(n int) []api.Unit { return slices.Repeat([]api.Unit{nop(idOf(1, 1))}, n) }

// last is the greatest Id.
func last() api.Id { return idOf(math.MaxUint32, math.MaxUint64) }

func goodRows() [][]api.Unit {
	one := idOf(1, 7)
	out := [][]api.Unit{
		nil,
		{},
		{nop(one)},
		{nop(api.Id{}), nop(last())},
		{ins(2, 0x1f600, one), del(0, 0, one), nop(one), del(5, 'a', idOf(300, 1<<40))},
		{ins(1<<31, 0x10ffff, last()), del(1<<31, 0x10ffff, last())},
		{ins(1<<31-1, 0xd7ff, one), del(1<<31-1, 0xe000, one)},
		nops(255),
		nops(256),
	}
	for _, c := range goodChars() {
		out = append(out, []api.Unit{ins(3, c, one), del(4, c, one)})
	}
	return out
}

func goodChars() []api.Char {
	return []api.Char{0, 1, 'a', 0x7f, 0x80, 0x3fff, 0x4000, 0xd7ff, 0xe000, 0xfffd, 0xffff, 0x10000, 0x1fffff >> 1, 0x10fffe, 0x10ffff}
}

func wrongChars() []api.Char {
	return []api.Char{-1, -2, math.MinInt32, 0xd800, 0xd801, 0xdc00, 0xdfff, 0x110000, 0x110061, 0x200000, math.MaxInt32}
}

// wrongUnits are units that may not be.
func wrongUnits() []api.Unit {
	id := idOf(1, 7)
	out := []api.Unit{{Pos: 1, Id: id}, {Pos: -1, Id: id}, {Pos: 1 << 31, Id: id}, {Char: 1, Id: id}, {Char: -1, Id: id}}
	for _, kind := range []int{api.Ins, api.Del} {
		for _, pos := range wrongPlaces() {
			out = append(out, api.Unit{Kind: kind, Pos: pos, Char: 'x', Id: id})
		}
		for _, c := range wrongChars() {
			out = append(out, api.Unit{Kind: kind, Pos: 1, Char: c, Id: id})
		}
	}
	for _, kind := range []int{-1, 3, 4, 256 + api.Ins, 1<<32 + api.Del, math.MinInt, math.MaxInt} {
		out = append(out, api.Unit{Kind: kind, Id: id}, api.Unit{Kind: kind, Pos: 1, Char: 'x', Id: id})
	}
	return out
}

func wrongPlaces() []int {
	return []int{-1, -2, 1<<31 + 1, 1 << 32, 1<<32 + 1, math.MaxInt, math.MinInt}
}

func wrongRevs() []uint64 {
	return []uint64{1<<40 + 1, 1<<40 + 2, 1 << 41, 1 << 63, math.MaxUint64}
}

// wrongRows are rows that may not be, one wrong unit at each place, and such as are too long.
func wrongRows() [][]api.Unit {
	one := idOf(1, 7)
	out := [][]api.Unit{nops(257), nops(258), nops(512), nops(5000)}
	for _, u := range wrongUnits() {
		out = append(out, []api.Unit{u}, []api.Unit{u, ins(0, 'a', one), nop(one)}, []api.Unit{ins(0, 'a', one), u, nop(one)}, []api.Unit{ins(0, 'a', one), nop(one), u}, append(nops(255), u))
	}
	return out
}

// goodNames are names that may be, from none to the most bytes.
func goodNames() []string {
	out := []string{"", "a", "n\u00e9", "\x00", "\x7f", " ", "\u0080", "\u07ff", "\u0800", "\ud7ff", "\ue000", "\ufeff", "\ufffd", "\uffff", "\U00010000", "\U0010ffff", "e\u0301"}
	for _, size := range []int{2, 31, 63, 64} {
		out = append(out, strings.Repeat("x", size))
	}
	return append(out, strings.Repeat("\u00e9", 32), strings.Repeat("\u20ac", 21)+"x", strings.Repeat("\U00010348", 16))
}

// longNames are texts of too many bytes, though some have few code points.
func longNames() []string {
	return []string{strings.Repeat("n", 65), strings.Repeat("n", 66), strings.Repeat("n", 128), strings.Repeat("n", 320), strings.Repeat("\u00e9", 33), strings.Repeat("\u20ac", 22), strings.Repeat("\U00010348", 17)}
}

// noTexts are names of few enough bytes that are no text.
func noTexts() []string {
	var out []string
	for _, x := range []string{"\x80", "\xbf", "\xc0", "\xc3", "\xe2", "\xf0", "\xf4", "\xf5", "\xff", "\xc0\x80", "\xc1\xbf", "\xe0\x9f\xbf", "\xe2\x82", "\xed\xa0\x80", "\xed\xbf\xbf", "\xf0\x8f\xbf\xbf", "\xf0\x90\x8d", "\xf4\x90\x80\x80", "\xf8\x88\x80\x80\x80", "\xc3\xc3", "\xe2\x82\xac\x80"} {
		out = append(out, x, "a"+x, x+"a", strings.Repeat("n", 64-len(x))+x, x+strings.Repeat("n", 64-len(x)))
	}
	return out
}

// chance is a row of numbers that look as if they came by chance, the same ones each time.
func chance() func(n int) int {
	state := uint64(15)
	return func(n int) int {
		state = state*6364136223846793005 + 1442695040888963407
		return int(state>>33) % n
	}
}

// calls are those of one kind of thing, and the plain ones to hold them against.
type calls[T any] struct {
	kind  string
	put   func(x T) ([]byte, api.Errno)
	parse func(b []byte) (T, api.Errno)
	bytes func(x T) []byte
	plain func(b []byte) (T, api.Errno)
}

func commands() calls[api.Cmd] {
	return calls[api.Cmd]{"command", PutCmd, ParseCmd, cmdBytes, plainCmd}
}

func answers() calls[api.Answer] {
	return calls[api.Answer]{"answer", PutAnswer, ParseAnswer, answerBytes, plainAnswer}
}

func notices() calls[api.Notice] {
	return calls[api.Notice]{"notice", PutNotice, ParseNotice, noticeBytes, plainNotice}
}

// like tells plainly whether all is the same: no two things have the same bytes.
func (c calls[T]) like(a, b T) bool { return string(c.bytes(a)) == string(c.bytes(b)) }

// wantPut puts something: that is its bytes, which are parsed as it was, or the error alone.
func (c calls[T]) wantPut(t *testing.T, x T, want api.Errno) {
	t.Helper()
	b, e := c.put(x)
	switch {
	case e != want:
		t.Errorf("Put of the %s %x: got error %d, want %d", c.kind, short(c.bytes(x)), e, want)
	case want != api.OK && len(b) > 0:
		t.Errorf("Put of the %s %x: got %x beside error %d", c.kind, short(c.bytes(x)), short(b), e)
	case want == api.OK:
		wantBytes(t, b, c.bytes(x))
		c.wantParse(t, b)
	}
}

func wantBytes(t *testing.T, got, want []byte) {
	t.Helper()
	if string(got) != string(want) {
		t.Errorf("got %x, want %x", short(got), short(want))
	}
}

func short(b []byte) []byte { return b[:min(len(b), 200)] }

// wantParse parses bytes and holds what is told against the plain reading; what may be is put again as the same bytes.
func (c calls[T]) wantParse(t *testing.T, b []byte) api.Errno {
	t.Helper()
	want, wantE := c.plain(b)
	got, e := c.parse(b)
	if e != wantE || !c.like(got, want) {
		t.Errorf("Parse of the %s %x: got %v, error %d, want %v, error %d", c.kind, short(b), got, e, want, wantE)
	}
	if again, e := c.put(got); wantE == api.OK && (e != api.OK || string(again) != string(b)) {
		t.Errorf("Put of what the %s %x is: got %x, error %d", c.kind, short(b), short(again), e)
	}
	return wantE
}

// kinds are the three things, each with its parsing.
func kinds() map[string]func(t *testing.T, b []byte) api.Errno {
	return map[string]func(t *testing.T, b []byte) api.Errno{"command": commands().wantParse, "answer": answers().wantParse, "notice": notices().wantParse}
}

func wantError(t *testing.T, kind string, b []byte, want api.Errno) {
	t.Helper()
	if e := kinds()[kind](t, b); e != want {
		t.Errorf("the plain reading of %x as a %s: got error %d, want %d", short(b), kind, e, want)
	}
}
