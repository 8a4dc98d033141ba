package doc

import (
	"bytes"
	"slices"
	"testing"
	"time"

	"copybook/api"
	"copybook/unit"
	"copybook/weave"
)

// chance tells numbers below a limit, always the same row of them.
func chance() func(below int) int {
	state := uint64(1)
	return func(below int) int {
		state = state*6364136223846793005 + 1442695040888963407
		return int(state >> 33 % uint64(below))
	}
}

// step is something to do to a document, and to the plain one alike; it tells the answer of each.
type step func(d *Doc, p *plain) (got, want api.Answer)

func opening(client uint32, rev, now uint64) step {
	return func(d *Doc, p *plain) (api.Answer, api.Answer) {
		return d.Open(client, rev, now), p.open(client, rev, now)
	}
}

func leaving(client uint32, now uint64) step {
	return func(d *Doc, p *plain) (api.Answer, api.Answer) { return d.Leave(client, now), p.leave(client, now) }
}

func editing(id api.Id, base, now uint64, row ...api.Unit) step {
	return func(d *Doc, p *plain) (api.Answer, api.Answer) {
		return d.Edit(id, base, row, now), p.edit(id, base, row, now)
	}
}

func undoing(id api.Id, rev, now uint64) step {
	return func(d *Doc, p *plain) (api.Answer, api.Answer) { return d.Undo(id, rev, now), p.undo(id, rev, now) }
}

func snapping(keep int, now uint64) step {
	return func(d *Doc, p *plain) (api.Answer, api.Answer) { return d.Snap(keep, now), p.snap(keep, now) }
}

func fetching(client uint32, rev uint64, most int, now uint64) step {
	return func(d *Doc, p *plain) (api.Answer, api.Answer) {
		return d.Fetch(client, rev, most, now), p.fetch(client, rev, most, now)
	}
}

func moving(client uint32, rev uint64, pos int, now uint64) step {
	return func(d *Doc, p *plain) (api.Answer, api.Answer) {
		return d.Move(client, rev, pos, now), p.move(client, rev, pos, now)
	}
}

func asking(client uint32, now uint64) step {
	return func(d *Doc, p *plain) (api.Answer, api.Answer) { return d.Who(client, now), p.who(client, now) }
}

func steps() []step {
	one, two := idOf(1, 1), idOf(2, 1)
	return []step{
		opening(1, 0, 0), opening(2, 1, 40), leaving(1, 40),
		editing(one, 0, 10, ins(0, 'a', one)), editing(two, 0, 50, ins(0, 'b', two), ins(1, 'c', two)), editing(two, 1, 10, del(0, two), nop(two)), editing(one, 2, 64),
		undoing(one, 1, 10), undoing(two, 2, 10), undoing(one, 3, 30),
		snapping(1, 20), fetching(2, 1, 1, 100), moving(1, 1, 1, 5), asking(2, 70),
	}
}

// goThrough does each of the steps to a copy of a document, and then so many further ones.
func goThrough(t *testing.T, d *Doc, p *plain, most int) {
	t.Helper()
	if most == 0 {
		return
	}
	for i, do := range steps() {
		d, p := d.Copy(), p.clone()
		got, want := do(d, p)
		if !sameAnswer(got, want) || !bytes.Equal(d.Bytes(), bytesOf(p.numbers()...)) {
			t.Fatalf("step %d: got answer %v, bytes %x, want %v, %x", i, got, d.Bytes(), want, bytesOf(p.numbers()...))
		}
		goThrough(t, d, p, most-1)
	}
}

// P13.1 to P13.7: all that can be done in a few steps, with nobody there, and with two clients.
func TestSteps(t *testing.T) {
	goThrough(t, New(), newPlain(), 4)
	b := with(t, "a", 1, 2)
	goThrough(t, b.doc, b.plain, 4)
}

// someRow is a row that mostly fits a length, and mostly lets it be about as long.
func someRow(long int, of api.Id, below func(int) int) []api.Unit {
	var row []api.Unit
	for range below(6) {
		switch k := below(30); {
		case k == 0:
			row = append(row, ins(long+below(2), 'z', of))
		case k == 1:
			row = append(row, nop(of))
		case k < 15 && long > 0:
			row, long = append(row, del(below(long), of)), long-1
		default:
			row, long = append(row, ins(below(long+1), 'a'+api.Char(below(26)), of)), long+1
		}
	}
	return row
}

// someStep is something that often goes on well, of one of six clients.
func someStep(p *plain, n int, now uint64, below func(int) int) step {
	client := far(below(6))
	id := idOf(client, uint64(n))
	// A revision from one ahead of From to one behind Now.
	rev := p.from + uint64(below(len(p.ops)+3)) - 1
	if rev > p.now()+1 {
		rev = 0
	}
	size := 0
	if p.from <= rev && rev <= p.now() {
		size = len(p.textAt(rev))
	}
	switch k := below(40); {
	case k < 5:
		return opening(client, rev, now)
	case k == 5:
		return leaving(client, now)
	case k < 22:
		return editing(id, rev, now, someRow(size, id, below)...)
	case k < 30:
		if rev > p.from && rev <= p.now() && below(4) > 0 {
			id.Client = p.ops[rev-p.from-1].Id.Client
		}
		return undoing(id, rev, now)
	case k == 30 && below(4) == 0:
		return snapping(below(12)-1, now)
	case k < 34:
		return fetching(client, rev, below(6)-1, now)
	case k < 38:
		return moving(client, rev, below(size+3)-1, now)
	}
	return asking(client, now)
}

// reader is who reads along: it has the text at some revision, as it took it from what was fetched.
type reader struct {
	rev  uint64
	text []api.Char
}

// take is what a reader does with an answer of Fetch.
func (x *reader) take(t *testing.T, a api.Answer) {
	t.Helper()
	if a.Whole {
		x.rev, x.text = a.Rev, a.Text
		return
	}
	for _, o := range a.Ops {
		text, e := weave.Apply(x.text, o.Units)
		if e != api.OK {
			t.Fatalf("operation %v does not fit %v", o, x.text)
		}
		x.rev, x.text = x.rev+1, text
	}
}

// P13.1 to P13.10: a long row of steps, held against the plain document. Who reads along has the text at each revision that it comes to; an operation that was told is never another one; a document that is taken up from its bytes, and a copy, go on as the document.
func TestManySteps(t *testing.T) {
	below := chance()
	b := begin(t)
	now := uint64(0)
	readers := make([]reader, 3)
	told := map[uint64]api.Op{}
	errors := map[api.Errno]int{}
	for n := range 6000 {
		switch k := below(60); {
		case k == 0:
			b.doc = b.doc.Copy()
		case k == 1:
			d, e := Parse(b.doc.Bytes())
			if e != api.OK {
				t.Fatalf("got error %d", e)
			}
			b.doc = d
		case k == 2:
			now += uint64(below(70))
		case k < 20:
			now += uint64(below(5))
		}
		got, want := someStep(b.plain, n, now, below)(b.doc, b.plain)
		b.want(got, want)
		errors[got.Err]++
		x := &readers[below(len(readers))]
		if below(4) == 0 && b.open(7, 0, now).Err == api.OK {
			x.take(t, b.fetch(7, x.rev, below(4), now))
			if x.rev >= b.plain.from && !slices.Equal(x.text, b.plain.textAt(x.rev)) {
				t.Errorf("a reader at revision %d has %v, want %v", x.rev, x.text, b.plain.textAt(x.rev))
			}
		}
		for i, o := range b.plain.ops {
			rev := b.plain.from + uint64(i) + 1
			if old, is := told[rev]; is && (old.Id != o.Id || !slices.Equal(old.Units, o.Units) || old.Undone && !o.Undone) {
				t.Errorf("revision %d: got operation %v, was %v", rev, o, old)
			}
			told[rev] = o
		}
		if t.Failed() {
			t.Fatalf("behind %d steps", n)
		}
		if len(b.plain.ops) > 60 {
			b.snap(below(60), now)
		}
	}
	for _, e := range []api.Errno{api.OK, api.ErrSession, api.ErrRev, api.ErrGone, api.ErrAuthor, api.ErrUndone, api.ErrRange} {
		if errors[e] < 20 {
			t.Errorf("error %d: seen %d times", e, errors[e])
		}
	}
	if b.plain.now() < 500 {
		t.Errorf("got to revision %d only", b.plain.now())
	}
}

// P13.8: the text is what the past makes of the text at From, and what is told of each operation is what was committed, in whatever order rows come that were all meant for one text.
func TestOnePast(t *testing.T) {
	first := chars("abc")
	for _, order := range [][]uint32{{1, 2, 3}, {1, 3, 2}, {2, 1, 3}, {2, 3, 1}, {3, 1, 2}, {3, 2, 1}} {
		b := with(t, "abc", 1, 2, 3)
		rows := map[uint32][]api.Unit{}
		for client := range uint32(4) {
			of := idOf(client, 5)
			rows[client] = rowOf(del(1, of), ins(1, 'p'+api.Char(client), of), ins(3, 'x', of))
		}
		for _, client := range order {
			wantErr(t, b.edit(idOf(client, 5), 1, 0, rows[client]...), api.OK)
		}
		// All clients' rows have one effect, in whatever order.
		wantText(t, b.doc, "aqrscxxx")
		text := first
		for _, o := range b.fetch(1, 1, 0, 0).Ops {
			text, _ = weave.Apply(text, o.Units)
		}
		if !slices.Equal(text, b.doc.Text()) {
			t.Errorf("got %v of the past, want %v", text, b.doc.Text())
		}
	}
}

// P13.10: of two documents to which the same was done all is the same, one of which was written, parsed and copied time and again.
func TestAlike(t *testing.T) {
	below := chance()
	one, two, p := New(), New(), newPlain()
	for n := range 1500 {
		do := someStep(p, n, uint64(n/9), below)
		a, _ := do(one, p)
		other, _ := do(two, p.clone())
		wantAnswer(t, other, a)
		if !bytes.Equal(one.Bytes(), two.Bytes()) {
			t.Fatalf("step %d: got bytes %x, want %x", n, two.Bytes(), one.Bytes())
		}
		two, _ = Parse(two.Copy().Bytes())
		if len(p.ops) > 40 {
			snapping(3, uint64(n/9))(one, p)
			two.Snap(3, uint64(n/9))
		}
	}
}

// R7: what was asked before is told again, also with other documents about.
func TestRepeats(t *testing.T) {
	want := crowd(t).doc.Bytes()
	for range 20 {
		other := with(t, "xyz", 1, 9)
		other.edit(idOf(9, 1), 1, 1, del(0, idOf(9, 1)))
		if got := crowd(t).doc.Bytes(); !bytes.Equal(got, want) {
			t.Fatalf("got %x, want %x", got, want)
		}
	}
}

// spoil writes over all that an answer has, and over the room behind it.
func spoil(a api.Answer) {
	for i := range a.Text[:cap(a.Text)] {
		a.Text[:cap(a.Text)][i] = '!'
	}
	for i := range a.Seats[:cap(a.Seats)] {
		a.Seats[:cap(a.Seats)][i] = api.Seat{Client: 99, Pos: 99, Until: 99}
	}
	for i, o := range a.Ops[:cap(a.Ops)] {
		spoilRow(o.Units)
		a.Ops[:cap(a.Ops)][i] = api.Op{Id: idOf(99, 99), Undone: true}
	}
}

func spoilRow(row []api.Unit) {
	all := row[:cap(row)]
	for i := range all {
		all[i] = api.Unit{Kind: 9, Pos: 9, Char: 9, Id: idOf(9, 9)}
	}
}

// R3: what is told is new memory: written over, nothing of the document is another.
func TestToldIsNew(t *testing.T) {
	b := crowd(t)
	b.edit(idOf(4, 1), 2, 27, ins(1, 'p', idOf(4, 1)), del(3, idOf(4, 1)))
	other := b.copy()
	for range 2 {
		for _, do := range []step{
			opening(4, 0, 30), opening(4, 1, 30), opening(2, 3, 30), asking(4, 30), fetching(4, 0, 0, 30), fetching(4, 1, 1, 30), fetching(4, 2, 0, 30), moving(4, 2, 1, 30),
			editing(idOf(4, 2), 1, 30, ins(2, 'q', idOf(4, 2))), editing(idOf(4, 3), 0, 30, nop(idOf(4, 3))), undoing(idOf(4, 4), 3, 30), undoing(idOf(1, 4), 1, 30), snapping(4, 30), opening(4, 0, 31),
		} {
			got, want := do(b.doc, b.plain)
			wantAnswer(t, got, want)
			spoil(got)
			text, there, bytes := b.doc.Text(), b.doc.There(0), b.doc.Bytes()
			spoil(api.Answer{Text: text})
			for i := range there[:cap(there)] {
				there[:cap(there)][i] = 77
			}
			for i := range bytes[:cap(bytes)] {
				bytes[:cap(bytes)][i] = 77
			}
			wantAs(t, b.doc, b.plain)
		}
	}
	wantAs(t, other.doc, other.plain)
}

// R3: the lists of one answer share nothing: each operation's units are its own.
func TestToldLivesApart(t *testing.T) {
	for i := range 3 {
		b := lived(t, 0)
		a := b.doc.Fetch(1, 0, 3, 1)
		want := b.plain.fetch(1, 0, 3, 1)
		spoilRow(a.Ops[i].Units)
		_ = append(a.Ops[i].Units, ins(0, 'x', idOf(1, 1)), ins(0, 'x', idOf(1, 1)))
		for j := range 3 {
			if j != i && !sameOp(a.Ops[j], want.Ops[j]) {
				t.Errorf("got operation %v, want %v", a.Ops[j], want.Ops[j])
			}
		}
	}
}

// R3: what is given stays as it is, is not kept, and what stands behind it too.
func TestGivenStays(t *testing.T) {
	b := with(t, "abcd", 1, 2)
	of := idOf(2, 1)
	b.edit(idOf(1, 2), 1, 0, del(0, idOf(1, 2)), ins(0, 'z', idOf(1, 2)))
	whole := rowOf(nop(of), del(3, of), ins(0, 'x', of), del(1, of), nop(of), ins(7, 'r', of), nop(of))
	given := slices.Clone(whole)
	row := given[:5]
	wantErr(t, b.edit(of, 1, 1, row...), api.OK)
	if !slices.Equal(given, whole) {
		t.Errorf("got %v, want %v", given, whole)
	}
	spoilRow(given)
	wantAs(t, b.doc, b.plain.clone())
	if ops := b.doc.Fetch(2, 2, 0, 1).Ops; len(ops) != 1 || slices.ContainsFunc(ops[0].Units, func(u api.Unit) bool { return u.Kind == 9 }) {
		t.Errorf("got operations %v", ops)
	}
	wrote := b.doc.Bytes()
	kept := slices.Clone(wrote)
	d, e := Parse(wrote)
	if e != api.OK || !bytes.Equal(wrote, kept) {
		t.Fatalf("got error %d, bytes %x, want %x", e, wrote, kept)
	}
	for i := range wrote {
		wrote[i] = 0xff
	}
	if !bytes.Equal(d.Bytes(), kept) {
		t.Errorf("got %x, want %x", d.Bytes(), kept)
	}
}

// P13.3: the longest rows behind the longest past, on the longest text, take no long time.
func TestLong(t *testing.T) {
	start := time.Now()
	b := long(t, 2000)
	d, rev := b.doc, b.plain.now()
	for n := range uint64(api.MaxPast - 1) {
		of := idOf(1, n)
		var row []api.Unit
		for i := range 48 {
			row = append(row, ins(i*7, 'a', of), del(i*9, of))
		}
		wantErr(t, d.Edit(of, rev+n, row, 1), api.OK)
	}
	of := idOf(2, 1)
	row := slices.Repeat(rowOf(del(0, of), ins(1000, 'b', of)), 128)
	wantErr(t, d.Edit(of, rev, row, 1), api.OK)
	wantErr(t, d.Undo(idOf(1, 999), rev+1, 1), api.ErrQuota)
	d.Snap(255, 2)
	wantErr(t, d.Undo(idOf(1, 999), rev+2, 2), api.OK)
	if d, e := Parse(d.Bytes()); e != api.OK || d.Rev() != rev+257 {
		t.Errorf("got error %d, revision %d", e, d.Rev())
	}
	if took := time.Since(start); took > 60*time.Second {
		t.Errorf("took %v", took)
	}
}

// P13.3: all short rows that fit a short text, of two clients, one behind the other: both orders lead to one text.
func TestTwoClients(t *testing.T) {
	one, two := idOf(1, 2), idOf(2, 2)
	begun := with(t, "ab", 1, 2)
	for _, x := range shortRows(2, one) {
		for _, y := range shortRows(2, two) {
			b, c := begun.doc.Copy(), begun.doc.Copy()
			first, second := b.Edit(one, 1, x, 1), b.Edit(two, 1, y, 1)
			c.Edit(two, 1, y, 1)
			c.Edit(one, 1, x, 1)
			if first.Err != api.OK || second.Err != api.OK || len(second.Ops) != 2 || !slices.Equal(b.Text(), c.Text()) {
				t.Errorf("%v and %v: got answers %v, %v, texts %v, %v", x, y, first, second, b.Text(), c.Text())
			}
		}
	}
}

// shortRows are all rows of two units that fit a length.
func shortRows(size int, of api.Id) [][]api.Unit {
	var units []api.Unit
	for pos := range size + 2 {
		units = append(units, ins(pos, 'n'+api.Char(pos), of), del(pos, of))
	}
	var out [][]api.Unit
	for _, x := range units {
		for _, y := range units {
			if unit.Fits(x, size) && unit.Fits(y, size+unit.Grows(x)) {
				out = append(out, rowOf(x, y))
			}
		}
	}
	return out
}
