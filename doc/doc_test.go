package doc

import (
	"bytes"
	"math"
	"slices"
	"testing"

	"copybook/api"
)

func idOf(client uint32, req uint64) api.Id { return api.Id{Client: client, Req: req} }

func ins(pos int, c api.Char, of api.Id) api.Unit {
	return api.Unit{Kind: api.Ins, Pos: pos, Char: c, Id: of}
}

func del(pos int, of api.Id) api.Unit { return api.Unit{Kind: api.Del, Pos: pos, Id: of} }

// gone is a Del that has what it takes out.
func gone(pos int, c api.Char, of api.Id) api.Unit {
	return api.Unit{Kind: api.Del, Pos: pos, Char: c, Id: of}
}

func nop(of api.Id) api.Unit { return api.Unit{Id: of} }

func rowOf(units ...api.Unit) []api.Unit { return units }

func opOf(of api.Id, units ...api.Unit) api.Op { return api.Op{Id: of, Units: units} }

func chars(s string) []api.Char {
	var out []api.Char
	for _, c := range s {
		out = append(out, api.Char(c))
	}
	return out
}

// typing is the row that types a text from a place on.
func typing(pos int, s string, of api.Id) []api.Unit {
	var row []api.Unit
	for i, c := range chars(s) {
		row = append(row, ins(pos+i, c, of))
	}
	return row
}

// wrong are units that may not be, of that Id.
func wrong(of api.Id) []api.Unit {
	out := []api.Unit{{Pos: 1, Id: of}, {Pos: -1, Id: of}, {Char: 'x', Id: of}}
	for _, kind := range []int{api.Ins, api.Del} {
		out = append(out, api.Unit{Kind: kind, Pos: -1, Id: of}, api.Unit{Kind: kind, Pos: math.MinInt, Id: of})
		for _, c := range []api.Char{-1, math.MinInt32, 0xd800, 0xdfff, 0x110000, math.MaxInt32} {
			out = append(out, api.Unit{Kind: kind, Char: c, Id: of})
		}
	}
	for _, kind := range []int{math.MinInt, -1, 3, 4, math.MaxInt, api.Ins + 256, api.Del + 1<<32} {
		out = append(out, api.Unit{Kind: kind, Id: of})
	}
	return out
}

// with is a document of New, and the plain one, at which these clients are till 64, and in which client 1 typed that text, if any, as its request 1, unit by unit in one row.
func with(t *testing.T, text string, clients ...uint32) *both {
	t.Helper()
	b := begin(t)
	for _, client := range clients {
		wantErr(t, b.open(client, 0, 0), api.OK)
	}
	if text != "" {
		wantErr(t, b.edit(idOf(1, 1), 0, 0, typing(0, text, idOf(1, 1))...), api.OK)
	}
	return b
}

func wantErr(t *testing.T, a api.Answer, want api.Errno) {
	t.Helper()
	if a.Err != want {
		t.Errorf("got error %d, want %d", a.Err, want)
	}
}

func wantText(t *testing.T, d *Doc, want string) {
	t.Helper()
	if got := d.Text(); !slices.Equal(got, chars(want)) {
		t.Errorf("Text: got %v, want %v", got, chars(want))
	}
}

// P13.1 to P13.4: the chapter's examples.
func TestExamples(t *testing.T) {
	b := begin(t)
	a := ins(0, 'a', idOf(1, 1))
	wantAnswer(t, b.open(1, 0, 5), api.Answer{Whole: true})
	wantAnswer(t, b.edit(idOf(1, 1), 0, 6, a), api.Answer{Rev: 1, Ops: []api.Op{opOf(idOf(1, 1), a)}})
	wantAnswer(t, b.open(2, 1, 7), api.Answer{Rev: 1})
	wantAnswer(t, b.edit(idOf(2, 1), 0, 8, ins(0, 'b', idOf(2, 1))), api.Answer{Rev: 2, Ops: []api.Op{opOf(idOf(1, 1), a), opOf(idOf(2, 1), ins(1, 'b', idOf(2, 1)))}})
	wantText(t, b.doc, "ab")
	wantAnswer(t, b.undo(idOf(1, 2), 1, 9), api.Answer{Rev: 3, Ops: []api.Op{opOf(idOf(1, 2), gone(0, 'a', idOf(1, 2)))}})
	wantText(t, b.doc, "b")
	wantAnswer(t, b.undo(idOf(2, 2), 1, 9), api.Answer{Err: api.ErrAuthor})
	wantAnswer(t, b.edit(idOf(3, 1), 0, 9), api.Answer{Err: api.ErrSession})
}

// P13.1: a new document; two of them have nothing in common.
func TestNew(t *testing.T) {
	d, other := New(), New()
	wantAs(t, d, newPlain())
	if got := d.Bytes(); !bytes.Equal(got, []byte{0, 0, 0, 0, 0, 0}) {
		t.Errorf("Bytes: got %x, want six zeros", got)
	}
	d.Open(1, 0, 7)
	d.Edit(idOf(1, 1), 0, rowOf(ins(0, 'a', idOf(1, 1))), 8)
	d.Move(1, 1, 1, 9)
	wantAs(t, other, newPlain())
	wantAs(t, New(), newPlain())
}

// calls are all calls that tell an answer, of a client, as it goes on best; also where it is not at the document.
func calls(client uint32) []func(b *both, now uint64) api.Answer {
	of := idOf(client, 9)
	return []func(b *both, now uint64) api.Answer{
		func(b *both, now uint64) api.Answer { b.t.Helper(); return b.open(client, b.plain.now(), now) },
		func(b *both, now uint64) api.Answer { b.t.Helper(); return b.leave(client, now) },
		func(b *both, now uint64) api.Answer {
			b.t.Helper()
			return b.edit(of, b.plain.now(), now, ins(0, 'z', of))
		},
		func(b *both, now uint64) api.Answer { b.t.Helper(); return b.undo(of, b.plain.now(), now) },
		func(b *both, now uint64) api.Answer { b.t.Helper(); return b.snap(1, now) },
		func(b *both, now uint64) api.Answer { b.t.Helper(); return b.fetch(client, b.plain.from, 1, now) },
		func(b *both, now uint64) api.Answer { b.t.Helper(); return b.move(client, b.plain.now(), 1, now) },
		func(b *both, now uint64) api.Answer { b.t.Helper(); return b.who(client, now) },
	}
}

// refused are calls that tell an error, though the client is at the document.
func refused(client uint32) []func(b *both, now uint64) api.Answer {
	of := idOf(client, 9)
	return []func(b *both, now uint64) api.Answer{
		func(b *both, now uint64) api.Answer { b.t.Helper(); return b.open(client, b.plain.now()+1, now) },
		func(b *both, now uint64) api.Answer {
			b.t.Helper()
			return b.edit(of, b.plain.now(), now, nop(idOf(client, 8)))
		},
		func(b *both, now uint64) api.Answer { b.t.Helper(); return b.edit(of, b.plain.now()+1, now) },
		func(b *both, now uint64) api.Answer {
			b.t.Helper()
			return b.edit(of, b.plain.now(), now, ins(5000, 'z', of))
		},
		func(b *both, now uint64) api.Answer { b.t.Helper(); return b.undo(of, 0, now) },
		func(b *both, now uint64) api.Answer { b.t.Helper(); return b.undo(of, b.plain.now()+1, now) },
		func(b *both, now uint64) api.Answer { b.t.Helper(); return b.fetch(client, 0, -1, now) },
		func(b *both, now uint64) api.Answer { b.t.Helper(); return b.fetch(client, b.plain.now()+1, 0, now) },
		func(b *both, now uint64) api.Answer { b.t.Helper(); return b.move(client, b.plain.now()+1, 0, now) },
		func(b *both, now uint64) api.Answer { b.t.Helper(); return b.move(client, b.plain.now(), -1, now) },
	}
}

// P13.1 to P13.7: no document, and one that neither New nor Parse made, whatever is asked; ErrNil is ahead of a now above MaxTime.
func TestNone(t *testing.T) {
	var value Doc
	over := with(t, "ab", 1).doc
	*over = Doc{}
	for _, d := range []*Doc{nil, {}, new(Doc), &value, over} {
		for _, now := range []uint64{0, 1, api.MaxTime, api.MaxTime + 1, math.MaxUint64} {
			row := rowOf(ins(0, 'a', idOf(1, 1)))
			for _, a := range []api.Answer{
				d.Open(1, 0, now), d.Open(1, 1, now), d.Leave(1, now), d.Edit(idOf(1, 1), 0, row, now), d.Edit(idOf(1, 1), 1, wrong(idOf(2, 2)), now),
				d.Undo(idOf(1, 1), 0, now), d.Undo(idOf(1, 1), 1, now), d.Snap(0, now), d.Snap(-1, now), d.Fetch(1, 0, 0, now), d.Fetch(1, 1, -1, now),
				d.Move(1, 0, 0, now), d.Move(1, 1, -1, now), d.Who(1, now),
			} {
				wantAnswer(t, a, api.Answer{Err: api.ErrNil})
			}
			if got := d.There(now); len(got) != 0 {
				t.Errorf("There(%d): got %v, want none", now, got)
			}
		}
		if len(d.Text()) != 0 || d.Rev() != 0 || d.From() != 0 || d.Turn() != 0 || len(d.Bytes()) != 0 || d.Copy() != nil {
			t.Errorf("got %v, %d, %d, %d, %v, %v of none", d.Text(), d.Rev(), d.From(), d.Turn(), d.Bytes(), d.Copy())
		}
	}
}

// crowd is a document with two operations, of clients 3 and 1, at which client 1 is till 64, 2 till 80, 3 till 90 and 4 till 90, each with a mark of its own.
func crowd(t *testing.T) *both {
	t.Helper()
	b := begin(t)
	for _, client := range []uint32{3, 1, 2, 4} {
		b.open(client, 0, 0)
	}
	b.edit(idOf(1, 1), 0, 0, typing(0, "abcd", idOf(1, 1))...)
	for _, client := range []uint32{1, 2, 3, 4} {
		b.move(client, 1, int(client), 0)
	}
	b.open(2, 1, 16)
	b.open(4, 1, 26)
	b.edit(idOf(3, 1), 1, 26, del(0, idOf(3, 1)))
	if b.plain.turn != 12 || b.doc.Turn() != 12 {
		t.Errorf("Turn: got %d, want 12", b.doc.Turn())
	}
	return b
}

// P13.1 to P13.6: each call that tells an answer touches the document first, at every tick around the leases' ends, also one that tells an error: who is there no more is gone, and its mark.
func TestTouch(t *testing.T) {
	there := func(now uint64) []uint32 {
		switch {
		case now < 64:
			return []uint32{1, 2, 3, 4}
		case now < 80:
			return []uint32{2, 3, 4}
		case now < 90:
			return []uint32{3, 4}
		}
		return nil
	}
	for _, now := range []uint64{0, 5, 63, 64, 65, 79, 80, 81, 89, 90, 91, 1000, api.MaxTime} {
		for _, client := range []uint32{1, 2, 3, 4, 5} {
			for i, call := range slices.Concat(calls(client), refused(client)) {
				b := crowd(t)
				left := there(now)
				a := call(b, now)
				if got := b.doc.Turn(); got != 13 {
					t.Errorf("call %d: Turn: got %d, want 13", i, got)
				}
				for _, other := range []uint32{1, 2, 3, 4} {
					is := slices.Contains(b.doc.There(0), other)
					if other != client && is != slices.Contains(left, other) {
						t.Errorf("call %d at %d: client %d is there: %v", i, now, other, is)
					}
				}
				// Open and Snap ask for no lease.
				if i < 8 && i != 0 && i != 3 && i != 4 && (a.Err == api.ErrSession) == slices.Contains(left, client) {
					t.Errorf("call %d at %d: got error %d, of those there %v", i, now, a.Err, left)
				}
				if i >= 8 && a.Err == api.OK {
					t.Errorf("call %d at %d: got no error", i, now)
				}
			}
		}
	}
}

// P13.1 to P13.6: a now above MaxTime is ErrArg, whatever else is wrong, and the document is not touched.
func TestAboveMaxTime(t *testing.T) {
	for _, now := range []uint64{api.MaxTime + 1, api.MaxTime + 2, api.MaxTime + api.Lease, 1 << 41, 1<<64 - 1} {
		for _, client := range []uint32{1, 5} {
			for _, call := range slices.Concat(calls(client), refused(client)) {
				b := crowd(t)
				before := b.doc.Bytes()
				wantAnswer(t, call(b, now), api.Answer{Err: api.ErrArg})
				if !bytes.Equal(b.doc.Bytes(), before) {
					t.Errorf("now %d: the document has changed", now)
				}
			}
		}
	}
}

// P13.2: who is gone has no mark any more: it comes back with one at 0.
func TestComeBack(t *testing.T) {
	for _, leave := range []bool{false, true} {
		b := with(t, "abc", 1, 2)
		b.move(2, 1, 3, 0)
		if leave {
			wantAnswer(t, b.leave(2, 64), api.Answer{Err: api.ErrSession})
			b.open(2, 0, 64)
			wantAnswer(t, b.leave(2, 65), api.Answer{Rev: 1})
			wantAnswer(t, b.leave(2, 65), api.Answer{Err: api.ErrSession})
		}
		wantAnswer(t, b.open(2, 1, 70), api.Answer{Rev: 1})
		wantAnswer(t, b.who(2, 70), api.Answer{Rev: 1, Seats: []api.Seat{{Client: 2, Pos: 0, Until: 134}}})
	}
}

// lived is a document with operations 1 to 6, of which those up to From are gone; clients 1 and 2 are at it.
func lived(t *testing.T, from uint64) *both {
	t.Helper()
	b := with(t, "", 1, 2)
	for i := range uint64(6) {
		of := idOf(1+uint32(i%2), 1+i)
		b.edit(of, i, 0, ins(0, 'a'+api.Char(i), of))
	}
	b.snap(int(6-from), 0)
	wantText(t, b.doc, "fedcba")
	return b
}

// P13.2: Open at a revision of 0, below From, at From, behind it, at Now, and above, of a client that is at it and of one that is not.
func TestOpen(t *testing.T) {
	for from := range uint64(7) {
		for _, client := range []uint32{0, 1, 2, 3, math.MaxUint32} {
			for _, rev := range []uint64{0, 1, 2, 3, 4, 5, 6, 7, 8, 1 << 40, 1<<64 - 1} {
				b := lived(t, from)
				ops := b.plain.ops
				a := b.open(client, rev, 3)
				switch {
				case rev > 6:
					wantAnswer(t, a, api.Answer{Err: api.ErrRev})
					if slices.Contains(b.doc.There(0), client) != (client == 1 || client == 2) {
						t.Errorf("Open(%d, %d): who is there has changed", client, rev)
					}
					continue
				case rev == 0 || rev < from:
					wantAnswer(t, a, api.Answer{Rev: 6, Whole: true, Text: chars("fedcba")})
				default:
					wantAnswer(t, a, api.Answer{Rev: 6, Ops: ops[rev-from:]})
				}
				if !slices.Contains(b.doc.There(66), client) || slices.Contains(b.doc.There(67), client) {
					t.Errorf("Open(%d, %d, 3): its lease is not until 67", client, rev)
				}
			}
		}
	}
}

// P13.2: a client that opens again keeps its mark, and its lease, if that is later.
func TestOpenAgain(t *testing.T) {
	b := with(t, "abc", 1)
	b.open(2, 0, 20)
	b.move(2, 1, 2, 20)
	for _, x := range []struct {
		now, until uint64
		pos        int
	}{{20, 84, 2}, {5, 84, 2}, {0, 84, 2}, {21, 85, 2}, {84, 148, 2}, {148, 212, 0}, {147, 212, 0}} {
		b.open(2, 1, x.now)
		seats := []api.Seat{{Client: 2, Pos: x.pos, Until: x.until}}
		if x.now < 64 {
			seats = slices.Insert(seats, 0, api.Seat{Client: 1, Pos: 3, Until: 64})
		}
		wantAnswer(t, b.copy().who(2, 0), api.Answer{Rev: 1, Seats: seats})
	}
}

// far is a client of that number, far from the ones beside it.
func far(n int) uint32 { return uint32(n) * 0x9e3779b1 }

// P13.2: 16 clients may be at it, no further one, but each of the 16 again; ErrRev is ahead of ErrFull; who leaves, or is there no more, makes room.
func TestOpenFull(t *testing.T) {
	b := begin(t)
	for i := range api.MaxClients {
		wantErr(t, b.open(far(i), 0, uint64(i)), api.OK)
	}
	for _, client := range []uint32{1, 16, math.MaxUint32} {
		wantAnswer(t, b.open(client, 0, 63), api.Answer{Err: api.ErrFull})
		wantAnswer(t, b.open(client, 1, 63), api.Answer{Err: api.ErrRev})
		wantErr(t, b.copy().open(client, 0, 64), api.OK)
		wantErr(t, b.copy().open(client, 0, 1000), api.OK)
		left := b.copy()
		left.leave(far(3), 50)
		wantErr(t, left.open(client, 0, 50), api.OK)
		wantErr(t, left.open(2, 0, 50), api.ErrFull)
		wantErr(t, left.open(far(3), 0, 50), api.ErrFull)
	}
	for i := range api.MaxClients {
		wantErr(t, b.open(far(i), 0, 20), api.OK)
	}
	if got := len(b.doc.There(0)); got != api.MaxClients {
		t.Errorf("got %d clients, want %d", got, api.MaxClients)
	}
}

// P13.2: Leave of who is at it, of who is not, and again; nobody else goes with it.
func TestLeave(t *testing.T) {
	for _, client := range []uint32{0, 1, 7, math.MaxUint32} {
		b := with(t, "ab", 1, 0, math.MaxUint32, 7)
		for _, c := range []uint32{0, 1, 7, math.MaxUint32} {
			b.move(c, 1, 2, 1)
		}
		wantAnswer(t, b.leave(8, 2), api.Answer{Err: api.ErrSession})
		wantAnswer(t, b.leave(client, 2), api.Answer{Rev: 1})
		if there := b.doc.There(2); len(there) != 3 || slices.Contains(there, client) {
			t.Errorf("There: got %v, without %d", there, client)
		}
		for _, call := range calls(client)[1:] {
			if a := call(b, 3); a.Err != api.ErrSession && (a.Err != api.OK || len(a.Ops)+len(a.Text)+len(a.Seats) > 0) {
				t.Errorf("got answer %v of a client that left", a)
			}
		}
		wantErr(t, b.open(client, 0, 4), api.OK)
		wantErr(t, b.leave(client, 4), api.OK)
	}
}

// P13.3: rows of one unit, and of two, meant for each revision from From on.
func TestEdit(t *testing.T) {
	b := with(t, "abc", 1, 2, 3)
	b.edit(idOf(1, 2), 1, 1, del(1, idOf(1, 2)))
	b.edit(idOf(3, 1), 2, 1, ins(1, 'x', idOf(3, 1)), ins(2, 'y', idOf(3, 1)))
	b.edit(idOf(1, 3), 3, 1, del(0, idOf(1, 3)), nop(idOf(1, 3)), ins(0, 'z', idOf(1, 3)))
	wantText(t, b.doc, "zxyc")
	b.snap(3, 1)
	of := idOf(2, 1)
	for base := range uint64(6) {
		for first := -1; first < 6; first++ {
			for second := -1; second < 6; second++ {
				b.copy().edit(of, base, 2, ins(first, 'p', of), del(second, of))
				b.copy().edit(of, base, 2, del(first, of), ins(second, 'p', of))
			}
			b.copy().edit(of, base, 2, nop(of), ins(first, 'p', of))
		}
		b.copy().edit(of, base, 2)
		b.copy().edit(of, base, 2, nop(of), nop(of))
	}
	for base := uint64(1); base <= 4; base++ {
		for _, pos := range []int{5, 4096, 1 << 31, 1 << 32, math.MaxInt - 1, math.MaxInt} {
			wantAnswer(t, b.edit(of, base, 2, ins(pos, 'p', of)), api.Answer{Err: api.ErrRange})
			wantAnswer(t, b.edit(of, base, 2, del(0, of), del(pos, of)), api.Answer{Err: api.ErrRange})
			wantAnswer(t, b.edit(of, base, 2, ins(pos, 'p', of), del(pos, of)), api.Answer{Err: api.ErrRange})
		}
	}
	wantAnswer(t, b.copy().edit(of, 0, 2), api.Answer{Err: api.ErrGone})
	wantAnswer(t, b.copy().edit(of, 5, 2), api.Answer{Err: api.ErrRev})
	wantAnswer(t, b.copy().edit(of, 4, 2, ins(5, 'p', of)), api.Answer{Err: api.ErrRange})
	wantAnswer(t, b.copy().edit(of, 4, 2, ins(4, 'p', of)), api.Answer{Rev: 5, Ops: []api.Op{opOf(of, ins(4, 'p', of))}})
	// At revision 2 the text is "ac": its c stands at 3 now.
	wantAnswer(t, b.edit(of, 2, 2, del(1, of)), api.Answer{Rev: 5, Ops: []api.Op{
		opOf(idOf(3, 1), ins(1, 'x', idOf(3, 1)), ins(2, 'y', idOf(3, 1))),
		opOf(idOf(1, 3), gone(0, 'a', idOf(1, 3)), ins(0, 'z', idOf(1, 3))),
		opOf(of, gone(3, 'c', of)),
	}})
	wantText(t, b.doc, "zxy")
}

// P13.3: what is committed has no Nops, and its Dels have what they take out, whatever they came with; a row of which nothing is left, and one of none, is committed all the same.
func TestEditCommits(t *testing.T) {
	b := with(t, "abc", 1, 2)
	of, other := idOf(1, 2), idOf(2, 1)
	wantAnswer(t, b.edit(of, 1, 1, nop(of), gone(1, 'z', of), nop(of), ins(0, 'x', of), nop(of)), api.Answer{Rev: 2, Ops: []api.Op{opOf(of, gone(1, 'b', of), ins(0, 'x', of))}})
	wantText(t, b.doc, "xac")
	// The b that it would take out is gone.
	wantAnswer(t, b.edit(other, 1, 1, del(1, other)), api.Answer{Rev: 3, Ops: []api.Op{opOf(of, gone(1, 'b', of), ins(0, 'x', of)), opOf(other)}})
	wantAnswer(t, b.edit(other, 3, 1), api.Answer{Rev: 4, Ops: []api.Op{opOf(other)}})
	wantAnswer(t, b.edit(other, 4, 1, nop(other), nop(other)), api.Answer{Rev: 5, Ops: []api.Op{opOf(other)}})
	wantText(t, b.doc, "xac")
	// What it types itself it takes out again.
	wantAnswer(t, b.edit(other, 5, 1, ins(1, 'q', other), del(1, other), del(1, other)), api.Answer{Rev: 6, Ops: []api.Op{opOf(other, ins(1, 'q', other), gone(1, 'q', other), gone(1, 'a', other))}})
	wantText(t, b.doc, "xc")
}

// P13.3: of two at one place the lesser Id's stays ahead, whichever came first.
func TestEditOrder(t *testing.T) {
	for _, first := range []uint32{1, 2} {
		b := with(t, "", 1, 2)
		one, two := idOf(first, 1), idOf(3-first, 1)
		b.edit(one, 0, 0, typing(0, string(rune('0'+one.Client)), one)...)
		b.edit(two, 0, 0, typing(0, string(rune('0'+two.Client)), two)...)
		wantText(t, b.doc, "12")
	}
}

// P13.3: a unit that may not be, and one of another Id, also a Nop, first, last, and within; nothing changes but that it is touched.
func TestEditWrong(t *testing.T) {
	of := idOf(1, 5)
	bad := wrong(of)
	for _, other := range []api.Id{{}, idOf(1, 4), idOf(1, 6), idOf(2, 5), idOf(0, 5), idOf(5, 1), idOf(1, 5+1<<32), idOf(1, 1<<63+5)} {
		bad = append(bad, nop(other), ins(0, 'a', other), del(0, other))
	}
	for _, u := range bad {
		for _, row := range [][]api.Unit{{u}, {u, ins(0, 'a', of)}, {ins(0, 'a', of), u}, {nop(of), u, nop(of)}} {
			b := with(t, "abc", 1)
			wantAnswer(t, b.edit(of, 1, 1, row...), api.Answer{Err: api.ErrArg})
		}
	}
}

// P13.3: the last one of 256 units, and one more; Nops count too, and what would be left of the row does not.
func TestEditUnits(t *testing.T) {
	of := idOf(1, 2)
	for _, u := range []api.Unit{nop(of), ins(0, 'a', of), ins(1, 'a', of), del(1, of)} {
		full := slices.Repeat(rowOf(u), api.MaxUnits)
		b := with(t, "", 1)
		for n := range 2 {
			row := typing(0, string(bytes.Repeat([]byte("x"), 200)), idOf(1, 1))
			wantErr(t, b.edit(idOf(1, 1), uint64(n), 0, row...), api.OK)
		}
		wantAnswer(t, b.edit(of, 2, 0, append(full, u)...), api.Answer{Err: api.ErrQuota})
		wantAnswer(t, b.edit(of, 2, 0, append(full, nop(of))...), api.Answer{Err: api.ErrQuota})
		wantAnswer(t, b.edit(of, 2, 0, append(full, ins(9999, 'x', of))...), api.Answer{Err: api.ErrQuota})
		wantAnswer(t, b.edit(of, 2, 0, append(full, nop(idOf(1, 1)))...), api.Answer{Err: api.ErrArg})
		wantErr(t, b.edit(of, 2, 0, full...), api.OK)
		if got, want := len(b.doc.Fetch(1, 2, 0, 0).Ops[0].Units), 256; u.Kind != api.Nop && got != want {
			t.Errorf("got %d units, want %d", got, want)
		}
	}
}

// long is a document with a text of so many code points, as client 1 typed it; it has an empty past, behind some revisions.
func long(t *testing.T, size int) *both {
	t.Helper()
	b := with(t, "", 1, 2)
	req := uint64(0)
	for size > 0 {
		part := min(size, api.MaxUnits)
		req++
		row := typing(0, string(bytes.Repeat([]byte("t"), part)), idOf(1, req))
		a := b.doc.Edit(idOf(1, req), req-1, row, 0)
		wantErr(t, a, api.OK)
		b.plain.edit(idOf(1, req), req-1, row, 0)
		size -= part
	}
	b.snap(0, 0)
	return b
}

// P13.3, P13.4: a text of 4096 code points, and one more; what counts is the text behind the row, at Now.
func TestMaxText(t *testing.T) {
	of, other := idOf(1, 100), idOf(2, 1)
	b := long(t, api.MaxText-1)
	rev := b.plain.now()
	wantAnswer(t, b.edit(of, rev, 1, ins(0, 'x', of), ins(0, 'y', of)), api.Answer{Err: api.ErrQuota})
	wantErr(t, b.edit(of, rev, 1, ins(0, 'x', of)), api.OK)
	// It would fit where it was meant for.
	wantAnswer(t, b.edit(other, rev, 1, ins(0, 'y', other)), api.Answer{Err: api.ErrQuota})
	wantAnswer(t, b.edit(other, rev+1, 1, ins(4096, 'y', other)), api.Answer{Err: api.ErrQuota})
	wantErr(t, b.edit(other, rev+1, 1), api.OK)
	// Within a row it may be longer.
	wantErr(t, b.edit(other, rev+2, 1, ins(4096, 'y', other), ins(0, 'z', other), del(1, other), del(1, other)), api.OK)
	if got := len(b.doc.Text()); got != api.MaxText {
		t.Errorf("got %d code points, want %d", got, api.MaxText)
	}
	// What both take out goes once, so that there is no room behind it.
	wantErr(t, b.edit(of, rev+3, 1, del(7, of)), api.OK)
	wantErr(t, b.edit(other, rev+4, 1, ins(0, 'q', other)), api.OK)
	wantAnswer(t, b.edit(of, rev+3, 1, del(7, of), ins(0, 'r', of)), api.Answer{Err: api.ErrQuota})
	// To take back what was taken out would be too much, and to take back what was typed is not.
	wantAnswer(t, b.undo(of, rev+4, 1), api.Answer{Err: api.ErrQuota})
	wantErr(t, b.undo(other, rev+5, 1), api.OK)
	wantErr(t, b.undo(of, rev+4, 1), api.OK)
	wantAnswer(t, b.undo(of, rev+4, 1), api.Answer{Err: api.ErrUndone})
}

// P13.3 to P13.5: 256 operations, and one more, also an empty one, and one that takes back; what Snap drops makes room.
func TestMaxPast(t *testing.T) {
	b := with(t, "", 1)
	for n := range uint64(api.MaxPast) {
		of := idOf(1, n)
		wantErr(t, b.doc.Edit(of, n, rowOf(ins(0, 'a', of)), 0), api.OK)
		b.plain.edit(of, n, rowOf(ins(0, 'a', of)), 0)
	}
	of := idOf(1, 999)
	wantAnswer(t, b.edit(of, 256, 1, ins(0, 'a', of)), api.Answer{Err: api.ErrQuota})
	wantAnswer(t, b.edit(of, 0, 1), api.Answer{Err: api.ErrQuota})
	wantAnswer(t, b.undo(of, 1, 1), api.Answer{Err: api.ErrQuota})
	wantAnswer(t, b.undo(of, 256, 1), api.Answer{Err: api.ErrQuota})
	b.snap(256, 1)
	wantAnswer(t, b.undo(of, 256, 1), api.Answer{Err: api.ErrQuota})
	b.snap(255, 1)
	wantAnswer(t, b.undo(of, 1, 1), api.Answer{Err: api.ErrGone})
	wantErr(t, b.undo(of, 2, 1), api.OK)
	wantAnswer(t, b.edit(of, 257, 1), api.Answer{Err: api.ErrQuota})
	b.snap(255, 1)
	wantErr(t, b.edit(of, 2, 1), api.OK)
	wantAnswer(t, b.edit(of, 258, 1), api.Answer{Err: api.ErrQuota})
}

// P13.3, P13.4: at MaxRev there is no further revision.
func TestMaxRev(t *testing.T) {
	p := newPlain()
	p.from = api.MaxRev - 1
	p.seats = []api.Seat{{Client: 1, Until: 64}}
	d, e := Parse(bytesOf(p.numbers()...))
	if e != api.OK {
		t.Fatalf("got error %d", e)
	}
	b := &both{t, d, p}
	of := idOf(1, 1)
	wantErr(t, b.edit(of, api.MaxRev-1, 1, ins(0, 'a', of)), api.OK)
	wantAnswer(t, b.edit(of, api.MaxRev, 1, ins(0, 'a', of)), api.Answer{Err: api.ErrFull})
	wantAnswer(t, b.edit(of, api.MaxRev-1, 1), api.Answer{Err: api.ErrFull})
	wantAnswer(t, b.undo(of, api.MaxRev, 1), api.Answer{Err: api.ErrFull})
	wantAnswer(t, b.edit(of, api.MaxRev+1, 1), api.Answer{Err: api.ErrRev})
	wantAnswer(t, b.open(2, api.MaxRev, 1), api.Answer{Rev: api.MaxRev})
	wantErr(t, b.fetch(2, api.MaxRev, 0, 1), api.OK)
	wantErr(t, b.move(2, api.MaxRev-1, 0, 1), api.OK)
}

// narrow is a document of which From and Now are so, the past has as many empty operations of client 1, of which the last one is Undone, and before that one of client 2, and the text has so many code points; clients 1 and 2 are at it till 64. Its operation 3 ahead of Now takes out a code point.
func narrow(t *testing.T, now uint64, ops, size int) *both {
	t.Helper()
	p := newPlain()
	p.from = now - uint64(ops)
	text := slices.Repeat([]api.Char{'t'}, size)
	p.texts = nil
	for n := range ops {
		o := opOf(idOf(1, uint64(n)))
		switch ops - n {
		case 1:
			o.Undone = true
		case 2:
			o.Id.Client = 2
		case 3:
			o.Units = rowOf(gone(0, 't', o.Id))
		}
		p.ops = append(p.ops, o)
		if ops-n >= 3 {
			p.texts = append(p.texts, slices.Concat(text, []api.Char{'t'}))
		} else {
			p.texts = append(p.texts, text)
		}
	}
	p.texts = append(p.texts, text)
	p.seats = []api.Seat{{Client: 1, Until: 64}, {Client: 2, Until: 64}}
	d, e := Parse(bytesOf(p.numbers()...))
	if e != api.OK {
		t.Fatalf("got error %d", e)
	}
	return &both{t, d, p}
}

// narrows are documents with room, and such that have none for one reason or several; which error a row that inserts a code point has then.
func narrows(t *testing.T) map[*both]api.Errno {
	return map[*both]api.Errno{
		narrow(t, 100, 4, 5):             api.OK,
		narrow(t, 1000, 256, 5):          api.ErrQuota,
		narrow(t, 100, 4, 4095):          api.OK,
		narrow(t, api.MaxRev, 4, 5):      api.ErrFull,
		narrow(t, api.MaxRev, 256, 5):    api.ErrQuota,
		narrow(t, api.MaxRev, 256, 4095): api.ErrQuota,
	}
}

// P13.3: of several errors the one that is named first, for each set of what may be wrong with a call.
func TestEditErrorOrder(t *testing.T) {
	of := idOf(1, 77)
	for b, last := range narrows(t) {
		from, now := b.plain.from, b.plain.now()
		for set := range 1 << 7 {
			is := func(n int) bool { return set>>n&1 == 1 }
			id, base, tick, row := of, now, uint64(1), rowOf(ins(0, 'x', of))
			want := last
			fault := func(n int, e api.Errno, do func()) {
				if is(n) {
					do()
					want = e
				}
			}
			// From the last one to the first.
			fault(0, api.ErrRange, func() { row = append(row, ins(5000, 'x', of)) })
			fault(1, api.ErrQuota, func() { row = append(row, slices.Repeat(rowOf(nop(of)), 256)...) })
			fault(2, api.ErrGone, func() { base = from - 1 })
			fault(3, api.ErrRev, func() { base = now + 1 })
			fault(4, api.ErrArg, func() { row = append(row, del(-1, of)) })
			fault(5, api.ErrSession, func() {
				id = idOf(3, 77)
				for i := range row {
					row[i].Id = id
				}
			})
			fault(6, api.ErrArg, func() { tick = api.MaxTime + 1 })
			wantErr(t, b.copy().edit(id, base, tick, row...), want)
		}
	}
}

// P13.4: likewise of Undo.
func TestUndoErrorOrder(t *testing.T) {
	for b, last := range narrows(t) {
		now := b.plain.now()
		for _, x := range []struct {
			client uint32
			rev    uint64
			tick   uint64
			want   api.Errno
		}{
			{1, now - 2, 1, last}, {1, now - 1, 1, api.ErrAuthor}, {2, now, 1, api.ErrAuthor}, {1, now, 1, api.ErrUndone},
			{1, b.plain.from, 1, api.ErrGone}, {1, b.plain.from - 1, 1, api.ErrGone}, {1, 1, 1, api.ErrGone}, {2, b.plain.from, 1, api.ErrGone},
			{1, now + 1, 1, api.ErrRev}, {2, 1<<64 - 1, 1, api.ErrRev}, {1, 0, 1, api.ErrNone},
			{3, now - 2, 1, api.ErrSession}, {3, now - 1, 1, api.ErrSession}, {3, now, 1, api.ErrSession}, {3, 1, 1, api.ErrSession}, {3, now + 1, 1, api.ErrSession}, {3, 0, 1, api.ErrSession},
			{1, now - 2, 64, api.ErrSession}, {1, 0, 64, api.ErrSession}, {1, 0, api.MaxTime, api.ErrSession},
			{1, now - 2, api.MaxTime + 1, api.ErrArg}, {3, 0, api.MaxTime + 1, api.ErrArg}, {3, now - 1, 1 << 60, api.ErrArg},
		} {
			wantErr(t, b.copy().undo(idOf(x.client, 5), x.rev, x.tick), x.want)
		}
	}
}

// P13.4: what was typed and taken out is taken back from behind all that came later, of oneself and of others; again, it is refused; what took it back may be taken back.
func TestUndo(t *testing.T) {
	b := with(t, "abcd", 1, 2)
	one, two, three := idOf(1, 2), idOf(2, 1), idOf(1, 3)
	b.edit(one, 1, 0, del(1, one), ins(0, 'x', one))
	b.edit(two, 2, 0, ins(1, 'y', two), del(4, two))
	wantText(t, b.doc, "xyac")
	wantAnswer(t, b.undo(three, 2, 0), api.Answer{Rev: 4, Ops: []api.Op{opOf(three, gone(0, 'x', three), ins(2, 'b', three))}})
	wantText(t, b.doc, "yabc")
	wantAnswer(t, b.undo(idOf(1, 4), 2, 0), api.Answer{Err: api.ErrUndone})
	wantAnswer(t, b.undo(idOf(2, 4), 2, 0), api.Answer{Err: api.ErrAuthor})
	ops := b.fetch(2, 0, 0, 0).Ops
	for i, o := range ops {
		if o.Undone != (i == 1) {
			t.Errorf("operation %d: Undone is %v", i+1, o.Undone)
		}
	}
	wantErr(t, b.undo(idOf(1, 5), 4, 0), api.OK)
	wantText(t, b.doc, "xyac")
	wantErr(t, b.undo(idOf(1, 6), 5, 0), api.OK)
	wantText(t, b.doc, "yabc")
	// What took it back is Undone, but what it took back stays so.
	wantErr(t, b.undo(idOf(1, 7), 2, 0), api.ErrUndone)
	wantErr(t, b.undo(idOf(1, 7), 4, 0), api.ErrUndone)
	wantErr(t, b.undo(idOf(1, 7), 6, 0), api.OK)
	// All that was typed, of which a part is gone.
	wantErr(t, b.undo(idOf(1, 8), 1, 0), api.OK)
	wantText(t, b.doc, "xy")
	// Of an empty one too, and by another request of one number.
	wantErr(t, b.edit(idOf(2, 9), 8, 0), api.OK)
	wantAnswer(t, b.undo(idOf(2, 9), 9, 0), api.Answer{Rev: 10, Ops: []api.Op{opOf(idOf(2, 9))}})
	wantErr(t, b.undo(idOf(2, 9), 9, 0), api.ErrUndone)
}

// P13.4: each revision taken back, behind each number of others, and behind what dropped them.
func TestUndoEach(t *testing.T) {
	for from := range uint64(7) {
		for _, client := range []uint32{1, 2, 3} {
			for rev := range uint64(9) {
				b := lived(t, from)
				a := b.undo(idOf(client, 50), rev, 1)
				switch {
				case client == 3:
					wantAnswer(t, a, api.Answer{Err: api.ErrSession})
				case rev == 0:
					wantAnswer(t, a, api.Answer{Err: api.ErrNone})
				case rev > 6:
					wantAnswer(t, a, api.Answer{Err: api.ErrRev})
				case rev <= from:
					wantAnswer(t, a, api.Answer{Err: api.ErrGone})
				case uint32(1+(rev-1)%2) != client:
					wantAnswer(t, a, api.Answer{Err: api.ErrAuthor})
				default:
					of := idOf(client, 50)
					wantAnswer(t, a, api.Answer{Rev: 7, Ops: []api.Op{opOf(of, gone(int(6-rev), 'a'+api.Char(rev)-1, of))}})
					wantErr(t, b.undo(of, rev, 1), api.ErrUndone)
				}
			}
		}
	}
}

// P13.5: Snap with any keep, of nobody, of a document with a past and without; the text stays, and what is kept too.
func TestSnap(t *testing.T) {
	for _, keep := range []int{math.MinInt, -7, -1, 0, 1, 2, 5, 6, 7, 256, 257, math.MaxInt} {
		b := lived(t, 0)
		b.move(1, 6, 3, 0)
		ops := b.plain.ops
		wantAnswer(t, b.snap(keep, 1), api.Answer{Rev: 6})
		left := min(max(keep, 0), 6)
		if got := b.doc.From(); got != uint64(6-left) {
			t.Errorf("Snap(%d): From: got %d, want %d", keep, got, 6-left)
		}
		wantText(t, b.doc, "fedcba")
		wantAnswer(t, b.fetch(1, b.plain.from, 0, 1), api.Answer{Rev: 6, Ops: ops[6-left:]})
		wantAnswer(t, b.snap(keep, 70), api.Answer{Rev: 6})
		if there := b.doc.There(0); len(there) != 0 {
			t.Errorf("got %v there, want none", there)
		}
		empty := begin(t)
		wantAnswer(t, empty.snap(keep, 1), api.Answer{})
	}
}

// P13.5: Fetch at each revision, behind each From, with any most.
func TestFetch(t *testing.T) {
	for from := range uint64(7) {
		for _, rev := range []uint64{0, 1, 2, 3, 4, 5, 6, 7, 8, 1 << 40, 1<<64 - 1} {
			for _, most := range []int{math.MinInt, -1, 0, 1, 2, 3, 5, 6, 7, math.MaxInt} {
				b := lived(t, from)
				ops := b.plain.ops
				wantAnswer(t, b.copy().fetch(3, rev, most, 5), api.Answer{Err: api.ErrSession})
				wantAnswer(t, b.copy().fetch(1, rev, most, 64), api.Answer{Err: api.ErrSession})
				a := b.fetch(1, rev, most, 5)
				switch {
				case most < 0:
					wantAnswer(t, a, api.Answer{Err: api.ErrArg})
				case rev > 6:
					wantAnswer(t, a, api.Answer{Err: api.ErrRev})
				case rev < from:
					wantAnswer(t, a, api.Answer{Rev: 6, Whole: true, Text: chars("fedcba")})
				case most == 0:
					wantAnswer(t, a, api.Answer{Rev: 6, Ops: ops[rev-from:]})
				default:
					wantAnswer(t, a, api.Answer{Rev: 6, Ops: ops[rev-from:][:min(most, int(6-rev))]})
				}
				if renewed := slices.Contains(b.doc.There(68), 1); renewed != (a.Err == api.OK) {
					t.Errorf("Fetch(1, %d, %d, 5): its lease is renewed: %v", rev, most, renewed)
				}
			}
		}
	}
}

// P13.6: Move to each place at each revision, behind what is gone; the place goes by all later operations.
func TestMove(t *testing.T) {
	for from := range uint64(7) {
		for _, rev := range []uint64{0, 1, 2, 3, 4, 5, 6, 7, 8, 1<<64 - 1} {
			for _, pos := range []int{math.MinInt, -1, 0, 1, 2, 3, 4, 5, 6, 7, math.MaxInt} {
				b := lived(t, from)
				wantAnswer(t, b.copy().move(3, rev, pos, 5), api.Answer{Err: api.ErrSession})
				a := b.move(1, rev, pos, 5)
				switch {
				case rev > 6:
					wantAnswer(t, a, api.Answer{Err: api.ErrRev})
				case rev < from:
					wantAnswer(t, a, api.Answer{Err: api.ErrGone})
				case pos < 0 || pos > int(rev):
					wantAnswer(t, a, api.Answer{Err: api.ErrRange})
				default:
					wantAnswer(t, a, api.Answer{Rev: 6})
					// Each operation behind rev inserts one at 0, which is ahead of every place.
					wantAnswer(t, b.who(2, 6), api.Answer{Rev: 6, Seats: []api.Seat{{Client: 1, Pos: pos + int(6-rev), Until: 69}, {Client: 2, Pos: b.plain.seats[1].Pos, Until: 70}}})
				}
				if renewed := slices.Contains(b.doc.There(68), 1); renewed != (a.Err == api.OK) {
					t.Errorf("Move(1, %d, %d, 5): its lease is renewed: %v", rev, pos, renewed)
				}
			}
		}
	}
}

// P13.6: all marks go with what is committed, by Edit and by Undo, also the own one.
func TestMarksGo(t *testing.T) {
	b := with(t, "abc", 1, 2, 3, 4)
	for i := range 4 {
		b.move(uint32(i+1), 1, i, 0)
	}
	places := func(want ...int) {
		t.Helper()
		for i, s := range b.copy().who(1, 0).Seats {
			if s.Client != uint32(i+1) || s.Pos != want[i] {
				t.Errorf("got seat %v, want client %d at %d", s, i+1, want[i])
			}
		}
	}
	places(0, 1, 2, 3)
	b.edit(idOf(2, 1), 1, 0, ins(1, 'x', idOf(2, 1)), ins(2, 'y', idOf(2, 1)))
	places(0, 3, 4, 5)
	b.edit(idOf(3, 1), 1, 0, del(0, idOf(3, 1)), del(0, idOf(3, 1)))
	places(0, 2, 2, 3)
	b.undo(idOf(3, 2), 3, 0)
	wantText(t, b.doc, "axybc")
	places(1, 4, 4, 5)
	b.undo(idOf(2, 2), 2, 0)
	places(1, 2, 2, 3)
	b.leave(2, 0)
	b.open(2, 0, 0)
	places(1, 0, 2, 3)
}

// P13.6: Who tells a seat of each, by rising clients, whatever the order in which they came, and its own lease renewed.
func TestWho(t *testing.T) {
	b := with(t, "abc", 1)
	order := []uint32{1 << 31, 7, math.MaxUint32, 0, 1<<31 - 1, 8}
	for i, client := range order {
		b.open(client, 1, uint64(10*i))
		b.move(client, 1, i%4, uint64(10*i))
	}
	seats := []api.Seat{
		{Client: 0, Pos: 3, Until: 94}, {Client: 1, Pos: 3, Until: 64}, {Client: 7, Pos: 1, Until: 74}, {Client: 8, Pos: 1, Until: 114},
		{Client: 1<<31 - 1, Pos: 0, Until: 104}, {Client: 1 << 31, Pos: 0, Until: 64}, {Client: math.MaxUint32, Pos: 2, Until: 84},
	}
	for i, s := range seats {
		want := slices.Clone(seats)
		want[i].Until = max(s.Until, 55+64)
		wantAnswer(t, b.copy().who(s.Client, 55), api.Answer{Rev: 1, Seats: want})
		wantAnswer(t, b.copy().who(s.Client, 0), api.Answer{Rev: 1, Seats: seats})
	}
	wantAnswer(t, b.copy().who(2, 55), api.Answer{Err: api.ErrSession})
	wantAnswer(t, b.copy().who(1, 64), api.Answer{Err: api.ErrSession})
	wantAnswer(t, b.who(8, 100), api.Answer{Rev: 1, Seats: []api.Seat{{Client: 8, Pos: 1, Until: 164}, {Client: 1<<31 - 1, Pos: 0, Until: 104}}})
}

// P13.2 to P13.6: the latest lease that may be, and whoever has it is there at MaxTime.
func TestLatest(t *testing.T) {
	b := begin(t)
	wantErr(t, b.open(1, 0, api.MaxTime), api.OK)
	wantAnswer(t, b.who(1, 0), api.Answer{Seats: []api.Seat{{Client: 1, Until: api.MaxTime + api.Lease}}})
	wantAnswer(t, b.who(1, api.MaxTime), api.Answer{Seats: []api.Seat{{Client: 1, Until: api.MaxTime + api.Lease}}})
	d, e := Parse(b.doc.Bytes())
	if e != api.OK {
		t.Fatalf("got error %d", e)
	}
	wantAs(t, d, b.plain)
}

// P13.1: a copy has the same, and lives apart, whichever of the two goes on.
func TestCopy(t *testing.T) {
	for _, turn := range []bool{false, true} {
		for _, call := range slices.Concat(calls(1), calls(3), calls(6), refused(1)) {
			b := crowd(t)
			c := b.copy()
			wantAs(t, c.doc, c.plain)
			if turn {
				b, c = c, b
			}
			call(c, 30)
			call(c, 85)
			wantAs(t, b.doc, b.plain)
			call(b, 31)
			wantAs(t, c.doc, c.plain)
		}
	}
}
