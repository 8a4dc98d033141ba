package doc

import (
	"bytes"
	"slices"
	"testing"

	"copybook/api"
	"copybook/mark"
	"copybook/unit"
	"copybook/weave"
	"copybook/wire"
)

// plain is a document told plainly, to hold the other one against: it has the text at each revision from From to Now, and who is at it as a list.
type plain struct {
	turn, from uint64
	ops        []api.Op
	texts      [][]api.Char
	seats      []api.Seat
}

func newPlain() *plain { return &plain{texts: [][]api.Char{nil}} }

func (p *plain) clone() *plain {
	return &plain{p.turn, p.from, slices.Clone(p.ops), slices.Clone(p.texts), slices.Clone(p.seats)}
}

func (p *plain) now() uint64 { return p.from + uint64(len(p.ops)) }

func (p *plain) text() []api.Char { return p.texts[len(p.ops)] }

func (p *plain) textAt(rev uint64) []api.Char { return p.texts[rev-p.from] }

func (p *plain) since(rev uint64) []api.Op { return slices.Clone(p.ops[rev-p.from:]) }

func failed(e api.Errno) api.Answer { return api.Answer{Err: e} }

func (p *plain) told() api.Answer { return api.Answer{Rev: p.now()} }

func (p *plain) touch(now uint64) {
	p.turn++
	p.seats = slices.DeleteFunc(slices.Clone(p.seats), func(s api.Seat) bool { return s.Until <= now })
}

// seat is where a client stands among the seats, or would have to, and whether it does.
func (p *plain) seat(client uint32) (int, bool) {
	for i, s := range p.seats {
		if s.Client >= client {
			return i, s.Client == client
		}
	}
	return len(p.seats), false
}

func (p *plain) is(client uint32) bool {
	_, is := p.seat(client)
	return is
}

func (p *plain) renew(client uint32, now uint64) {
	at, _ := p.seat(client)
	p.seats[at].Until = max(p.seats[at].Until, now+64)
}

func (p *plain) reading(rev uint64, whole bool) api.Answer {
	a := p.told()
	if whole {
		a.Whole, a.Text = true, slices.Clone(p.text())
	} else {
		a.Ops = p.since(rev)
	}
	return a
}

func (p *plain) open(client uint32, rev, now uint64) api.Answer {
	if now > 1<<40 {
		return failed(api.ErrArg)
	}
	p.touch(now)
	if rev > p.now() {
		return failed(api.ErrRev)
	}
	if at, is := p.seat(client); !is {
		if len(p.seats) == 16 {
			return failed(api.ErrFull)
		}
		p.seats = slices.Insert(p.seats, at, api.Seat{Client: client})
	}
	p.renew(client, now)
	return p.reading(rev, rev == 0 || rev < p.from)
}

func (p *plain) leave(client uint32, now uint64) api.Answer {
	if now > 1<<40 {
		return failed(api.ErrArg)
	}
	p.touch(now)
	at, is := p.seat(client)
	if !is {
		return failed(api.ErrSession)
	}
	p.seats = slices.Delete(p.seats, at, at+1)
	return p.told()
}

func (p *plain) edit(id api.Id, base uint64, row []api.Unit, now uint64) api.Answer {
	if now > 1<<40 {
		return failed(api.ErrArg)
	}
	p.touch(now)
	if !p.is(id.Client) {
		return failed(api.ErrSession)
	}
	for _, u := range row {
		if !unit.May(u) || u.Id != id {
			return failed(api.ErrArg)
		}
	}
	switch {
	case base > p.now():
		return failed(api.ErrRev)
	case base < p.from:
		return failed(api.ErrGone)
	case len(row) > 256:
		return failed(api.ErrQuota)
	}
	if _, e := weave.Apply(p.textAt(base), row); e != api.OK {
		return failed(e)
	}
	for _, o := range p.since(base) {
		row, _ = weave.Both(row, o.Units)
	}
	if e := p.commit(id, row); e != api.OK {
		return failed(e)
	}
	p.renew(id.Client, now)
	return p.reading(base, false)
}

func (p *plain) undo(id api.Id, rev uint64, now uint64) api.Answer {
	if now > 1<<40 {
		return failed(api.ErrArg)
	}
	p.touch(now)
	switch {
	case !p.is(id.Client):
		return failed(api.ErrSession)
	case rev == 0:
		return failed(api.ErrNone)
	case rev > p.now():
		return failed(api.ErrRev)
	case rev <= p.from:
		return failed(api.ErrGone)
	}
	o := &p.ops[rev-p.from-1]
	switch {
	case o.Id.Client != id.Client:
		return failed(api.ErrAuthor)
	case o.Undone:
		return failed(api.ErrUndone)
	}
	row := turned(o.Units, id)
	for _, later := range p.since(rev) {
		row, _ = weave.Both(row, later.Units)
	}
	if e := p.commit(id, row); e != api.OK {
		return failed(e)
	}
	p.ops[rev-p.from-1].Undone = true
	p.renew(id.Client, now)
	return p.reading(p.now()-1, false)
}

// turned is what takes a row back right behind it.
func turned(row []api.Unit, id api.Id) []api.Unit {
	var out []api.Unit
	for _, u := range row {
		back := api.Unit{Id: id}
		switch u.Kind {
		case api.Ins:
			back.Kind, back.Pos = api.Del, u.Pos
		case api.Del:
			back.Kind, back.Pos, back.Char = api.Ins, u.Pos, u.Char
		}
		out = slices.Insert(out, 0, back)
	}
	return out
}

// commit lays the row unit by unit: each Del gets what it takes out, and no Nop stays.
func (p *plain) commit(id api.Id, row []api.Unit) api.Errno {
	text, seats := slices.Clone(p.text()), slices.Clone(p.seats)
	var units []api.Unit
	for _, u := range row {
		switch u.Kind {
		case api.Nop:
			continue
		case api.Ins:
			text = slices.Insert(text, u.Pos, u.Char)
		case api.Del:
			u.Char = text[u.Pos]
			text = slices.Delete(text, u.Pos, u.Pos+1)
		}
		units = append(units, u)
		for i := range seats {
			seats[i].Pos = moved(seats[i].Pos, u)
		}
	}
	switch {
	case len(text) > 4096 || len(p.ops) == 256:
		return api.ErrQuota
	case p.now() == 1<<40:
		return api.ErrFull
	}
	p.ops = append(slices.Clone(p.ops), api.Op{Id: id, Units: units})
	p.texts, p.seats = append(slices.Clone(p.texts), text), seats
	return api.OK
}

func moved(pos int, u api.Unit) int {
	switch {
	case u.Kind == api.Ins && u.Pos <= pos:
		return pos + 1
	case u.Kind == api.Del && u.Pos < pos:
		return pos - 1
	}
	return pos
}

func (p *plain) snap(keep int, now uint64) api.Answer {
	if now > 1<<40 {
		return failed(api.ErrArg)
	}
	p.touch(now)
	for len(p.ops) > keep && len(p.ops) > 0 {
		p.from, p.ops, p.texts = p.from+1, p.ops[1:], p.texts[1:]
	}
	return p.told()
}

func (p *plain) fetch(client uint32, rev uint64, most int, now uint64) api.Answer {
	if now > 1<<40 {
		return failed(api.ErrArg)
	}
	p.touch(now)
	switch {
	case !p.is(client):
		return failed(api.ErrSession)
	case most < 0:
		return failed(api.ErrArg)
	case rev > p.now():
		return failed(api.ErrRev)
	}
	p.renew(client, now)
	a := p.reading(rev, rev < p.from)
	for most > 0 && len(a.Ops) > most {
		a.Ops = a.Ops[:len(a.Ops)-1]
	}
	return a
}

func (p *plain) move(client uint32, rev uint64, pos int, now uint64) api.Answer {
	if now > 1<<40 {
		return failed(api.ErrArg)
	}
	p.touch(now)
	at, is := p.seat(client)
	switch {
	case !is:
		return failed(api.ErrSession)
	case rev > p.now():
		return failed(api.ErrRev)
	case rev < p.from:
		return failed(api.ErrGone)
	case pos < 0 || pos > len(p.textAt(rev)):
		return failed(api.ErrRange)
	}
	for _, o := range p.since(rev) {
		for _, u := range o.Units {
			pos = moved(pos, u)
		}
	}
	p.seats[at].Pos = pos
	p.renew(client, now)
	return p.told()
}

func (p *plain) who(client uint32, now uint64) api.Answer {
	if now > 1<<40 {
		return failed(api.ErrArg)
	}
	p.touch(now)
	if !p.is(client) {
		return failed(api.ErrSession)
	}
	p.renew(client, now)
	a := p.told()
	a.Seats = slices.Clone(p.seats)
	return a
}

func (p *plain) there(now uint64) []uint32 {
	var out []uint32
	for _, s := range p.seats {
		if now < s.Until {
			out = append(out, s.Client)
		}
	}
	return out
}

// numbers is the document as the numbers that its bytes are.
func (p *plain) numbers() []uint64 {
	out := []uint64{p.turn, p.from, uint64(len(p.texts[0])), uint64(len(p.ops))}
	for _, o := range p.ops {
		undone := uint64(0)
		if o.Undone {
			undone = 1
		}
		out = append(out, uint64(o.Id.Client), o.Id.Req, undone, uint64(len(o.Units)))
		for _, u := range o.Units {
			out = append(out, uint64(u.Kind), uint64(u.Pos), uint64(u.Char), uint64(u.Id.Client), u.Id.Req)
		}
	}
	out = append(out, uint64(len(p.text())))
	for _, c := range p.text() {
		out = append(out, uint64(c))
	}
	out = append(out, uint64(len(p.seats)))
	for _, s := range p.seats {
		out = append(out, uint64(s.Client), s.Until, uint64(s.Pos))
	}
	return out
}

// bytesOf are numbers, one behind the other.
func bytesOf(numbers ...uint64) []byte {
	var w wire.Writer
	for _, n := range numbers {
		w.Num(n)
	}
	return w.Out()
}

func sameOp(a, b api.Op) bool {
	return a.Id == b.Id && a.Undone == b.Undone && slices.Equal(a.Units, b.Units)
}

func sameAnswer(a, b api.Answer) bool {
	return a.Err == b.Err && a.Doc == b.Doc && a.Rev == b.Rev && a.Whole == b.Whole && slices.Equal(a.Text, b.Text) &&
		slices.EqualFunc(a.Ops, b.Ops, sameOp) && slices.Equal(a.Seats, b.Seats)
}

func wantAnswer(t *testing.T, got, want api.Answer) {
	t.Helper()
	if !sameAnswer(got, want) {
		t.Errorf("got answer %v, want %v", got, want)
	}
}

// wantAs asks all that a document tells: it is as the plain one.
func wantAs(t *testing.T, d *Doc, p *plain) {
	t.Helper()
	if got, want := d.Bytes(), bytesOf(p.numbers()...); !bytes.Equal(got, want) {
		t.Errorf("Bytes: got %x, want %x", got, want)
	}
	if got := d.Text(); !slices.Equal(got, p.text()) {
		t.Errorf("Text: got %v, want %v", got, p.text())
	}
	if d.Rev() != p.now() || d.From() != p.from || d.Turn() != p.turn {
		t.Errorf("got Rev %d, From %d, Turn %d, want %d, %d, %d", d.Rev(), d.From(), d.Turn(), p.now(), p.from, p.turn)
	}
	wantWithin(t, d, p)
	ticks := []uint64{0, 1 << 40, 1<<64 - 1}
	for _, s := range p.seats {
		ticks = append(ticks, s.Until-1, s.Until)
	}
	for _, now := range ticks {
		if got := d.There(now); !slices.Equal(got, p.there(now)) {
			t.Errorf("There(%d): got %v, want %v", now, got, p.there(now))
		}
	}
}

// wantWithin asks what no call tells: that who is at it has a mark, and nobody else, in a text of that length.
func wantWithin(t *testing.T, d *Doc, p *plain) {
	t.Helper()
	var want []mark.Mark
	for _, s := range p.seats {
		want = append(want, mark.Mark{Client: s.Client, Pos: s.Pos})
	}
	if got := d.marks.All(); !slices.Equal(got, want) {
		t.Errorf("got marks %v, want %v", got, want)
	}
	if got := d.marks.Long(); got != len(p.text()) {
		t.Errorf("got marks in a text of %d, want %d", got, len(p.text()))
	}
}

// both is a document and the plain one, to which all is done alike.
type both struct {
	t     *testing.T
	doc   *Doc
	plain *plain
}

func begin(t *testing.T) *both { return &both{t, New(), newPlain()} }

// want holds what was told against what the plain document tells, and one document against the other.
func (b *both) want(got, want api.Answer) api.Answer {
	b.t.Helper()
	wantAnswer(b.t, got, want)
	wantAs(b.t, b.doc, b.plain)
	return got
}

func (b *both) open(client uint32, rev, now uint64) api.Answer {
	b.t.Helper()
	return b.want(b.doc.Open(client, rev, now), b.plain.open(client, rev, now))
}

func (b *both) leave(client uint32, now uint64) api.Answer {
	b.t.Helper()
	return b.want(b.doc.Leave(client, now), b.plain.leave(client, now))
}

func (b *both) edit(id api.Id, base uint64, now uint64, row ...api.Unit) api.Answer {
	b.t.Helper()
	return b.want(b.doc.Edit(id, base, row, now), b.plain.edit(id, base, row, now))
}

func (b *both) undo(id api.Id, rev uint64, now uint64) api.Answer {
	b.t.Helper()
	return b.want(b.doc.Undo(id, rev, now), b.plain.undo(id, rev, now))
}

func (b *both) snap(keep int, now uint64) api.Answer {
	b.t.Helper()
	a := b.want(b.doc.Snap(keep, now), b.plain.snap(keep, now))
	if n := len(b.doc.text.Pieces()); a.Err == api.OK && n > 1 {
		b.t.Errorf("the text is in %d pieces", n)
	}
	return a
}

func (b *both) fetch(client uint32, rev uint64, most int, now uint64) api.Answer {
	b.t.Helper()
	return b.want(b.doc.Fetch(client, rev, most, now), b.plain.fetch(client, rev, most, now))
}

func (b *both) move(client uint32, rev uint64, pos int, now uint64) api.Answer {
	b.t.Helper()
	return b.want(b.doc.Move(client, rev, pos, now), b.plain.move(client, rev, pos, now))
}

func (b *both) who(client uint32, now uint64) api.Answer {
	b.t.Helper()
	return b.want(b.doc.Who(client, now), b.plain.who(client, now))
}

func (b *both) copy() *both { return &both{b.t, b.doc.Copy(), b.plain.clone()} }
