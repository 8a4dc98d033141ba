package doc

import (
	"bytes"
	"math"
	"slices"
	"testing"

	"copybook/api"
	"copybook/num"
	"copybook/unit"
	"copybook/utf"
	"copybook/weave"
)

// parsed reads numbers as a document, plainly: what it is told is the error of the first thing that is wrong, if any is.
func parsed(numbers []uint64) api.Errno {
	var first api.Errno
	fail := func(e api.Errno) {
		if first == api.OK {
			first = e
		}
	}
	next := func() uint64 {
		if len(numbers) == 0 {
			fail(api.ErrShort)
			return 0
		}
		n := numbers[0]
		numbers = numbers[1:]
		return n
	}
	upto := func(most uint64, e api.Errno) uint64 {
		n := next()
		if n > most {
			fail(e)
			return 0
		}
		return n
	}
	next()
	from := upto(1<<40, api.ErrLong)
	long := int(upto(4096, api.ErrForm))
	ops := upto(256, api.ErrLong)
	for n := uint64(0); n < ops && first == api.OK; n++ {
		upto(1<<32-1, api.ErrLong)
		next()
		upto(1, api.ErrForm)
		long = parsedRow(upto, next, fail, long)
		if from+n >= 1<<40 {
			fail(api.ErrForm)
		}
	}
	size := upto(4096, api.ErrLong)
	for n := uint64(0); n < size && first == api.OK; n++ {
		if c := next(); c > 0x10ffff || !utf.May(api.Char(c)) {
			fail(api.ErrForm)
		}
	}
	if size != uint64(long) {
		fail(api.ErrForm)
	}
	seats := upto(16, api.ErrLong)
	least := uint64(0)
	for n := uint64(0); n < seats && first == api.OK; n++ {
		client, until, pos := upto(1<<32-1, api.ErrLong), next(), next()
		if client < least || until > 1<<40+64 || pos > size {
			fail(api.ErrForm)
		}
		least = client + 1
	}
	if len(numbers) > 0 {
		fail(api.ErrLong)
	}
	return first
}

// parsedRow tells the length that a row leaves.
func parsedRow(upto func(uint64, api.Errno) uint64, next func() uint64, fail func(api.Errno), long int) int {
	var row []api.Unit
	for range upto(256, api.ErrLong) {
		u := api.Unit{Kind: int(upto(2, api.ErrForm)), Pos: int(upto(1<<31, api.ErrLong)), Char: api.Char(upto(0x10ffff, api.ErrLong))}
		u.Id = api.Id{Client: uint32(upto(1<<32-1, api.ErrLong)), Req: next()}
		row = append(row, u)
	}
	for _, u := range row {
		if !unit.May(u) || !unit.Fits(u, long) {
			fail(api.ErrForm)
			return 0
		}
		long += unit.Grows(u)
	}
	if long > 4096 {
		fail(api.ErrForm)
	}
	return long
}

func wantParse(t *testing.T, b []byte, want api.Errno) {
	t.Helper()
	d, e := Parse(b)
	if e != want || (d == nil) != (e != api.OK) {
		t.Errorf("Parse(%x): got %v, error %d, want error %d", b, d, e, want)
	}
	if e == api.OK && !bytes.Equal(d.Bytes(), b) {
		t.Errorf("Parse(%x): its Bytes are %x", b, d.Bytes())
	}
}

// record is a document's numbers, each at a place of its own.
func record() []uint64 {
	return []uint64{
		// Turn, From, the length there, how many operations: at 0.
		9, 5, 2, 3,
		// The first one: at 4. Its units: at 8, 13, 18.
		1, 7, 0, 3, 1, 2, 'x', 1, 7, 2, 0, 'a', 1, 7, 0, 0, 0, 1, 7,
		// The second one, of nothing, which is Undone: at 23. The third one: at 27, its unit at 31.
		2, 1 << 50, 1, 0, math.MaxUint32, math.MaxUint64, 0, 1, 2, 1, 'x', math.MaxUint32, math.MaxUint64,
		// The text: at 36.
		1, 'b',
		// Who is at it: at 38.
		2, 3, 1<<40 + 64, 1, math.MaxUint32, 0, 0,
	}
}

// P13.7: a document as its bytes, thing by thing.
func TestBytes(t *testing.T) {
	b := begin(t)
	b.open(1, 0, 3)
	b.open(300, 0, 4)
	b.edit(idOf(300, 2), 0, 5, ins(0, 0x20ac, idOf(300, 2)), ins(1, 'b', idOf(300, 2)))
	b.edit(idOf(1, 1), 1, 6, del(0, idOf(1, 1)))
	b.undo(idOf(300, 3), 1, 7)
	b.move(1, 3, 0, 8)
	want := []byte{
		6, 0, 0, 3,
		0xac, 2, 2, 1, 2, 1, 0, 0xac, 0x41, 0xac, 2, 2, 1, 1, 'b', 0xac, 2, 2,
		1, 1, 0, 1, 2, 0, 0xac, 0x41, 1, 1,
		0xac, 2, 3, 0, 1, 2, 0, 'b', 0xac, 2, 3,
		0,
		2, 1, 72, 0, 0xac, 2, 71, 0,
	}
	if got := b.doc.Bytes(); !bytes.Equal(got, want) {
		t.Errorf("Bytes: got %x, want %x", got, want)
	}
	wantParse(t, want, api.OK)
	// What is dropped is not there any more, but the length at From is.
	b.snap(1, 9)
	want = []byte{7, 2, 1, 1, 0xac, 2, 3, 0, 1, 2, 0, 'b', 0xac, 2, 3, 0, 2, 1, 72, 0, 0xac, 2, 71, 0}
	if got := b.doc.Bytes(); !bytes.Equal(got, want) {
		t.Errorf("Bytes: got %x, want %x", got, want)
	}
	wantParse(t, want, api.OK)
}

// P13.7, P13.10: what is parsed has all that the bytes say.
func TestParse(t *testing.T) {
	wantParse(t, bytesOf(record()...), api.OK)
	d, _ := Parse(bytesOf(record()...))
	if d.Turn() != 9 || d.From() != 5 || d.Rev() != 8 || !slices.Equal(d.Text(), chars("b")) {
		t.Errorf("got Turn %d, From %d, Rev %d, Text %v", d.Turn(), d.From(), d.Rev(), d.Text())
	}
	if got := d.There(0); !slices.Equal(got, []uint32{3}) {
		t.Errorf("There(0): got %v, want 3", got)
	}
	one := idOf(1, 7)
	wantAnswer(t, d.Copy().Fetch(3, 5, 1, 1<<40), api.Answer{Rev: 8, Ops: []api.Op{opOf(one, ins(2, 'x', one), gone(0, 'a', one), nop(one))}})
	wantAnswer(t, d.Copy().Fetch(3, 6, 1, 0), api.Answer{Rev: 8, Ops: []api.Op{{Id: idOf(2, 1<<50), Undone: true}}})
	wantAnswer(t, d.Copy().Who(3, 1<<40), api.Answer{Rev: 8, Seats: []api.Seat{{Client: 3, Pos: 1, Until: 1<<40 + 64}}})
	d.Open(1, 0, 0)
	of := idOf(1, 8)
	// The x that it typed is gone.
	wantAnswer(t, d.Undo(of, 6, 0), api.Answer{Rev: 9, Ops: []api.Op{opOf(of, ins(0, 'a', of))}})
	wantAnswer(t, d.Edit(idOf(3, 1), 4, nil, 0), api.Answer{Err: api.ErrGone})
}

// P13.7, P3.6: each beginning of a document's bytes, and bytes behind.
func TestParseCut(t *testing.T) {
	for _, b := range [][]byte{bytesOf(record()...), crowd(t).doc.Bytes(), New().Bytes()} {
		for size := range b {
			wantParse(t, b[:size], api.ErrShort)
		}
		for _, behind := range [][]byte{{0}, {1, 2, 3}, {0x80}, b} {
			wantParse(t, slices.Concat(b, behind), api.ErrLong)
		}
	}
	wantParse(t, nil, api.ErrShort)
}

// fault is something wrong with the record: another number at a place, which is told when so many numbers were read.
type fault struct {
	at     int
	number uint64
	told   int
	want   api.Errno
}

// faults are such as leave all other things at their places. Where one is told behind the last number of its row, of the text or of its client, told says so.
func faults() []fault {
	return []fault{
		{1, 1<<40 + 1, 1, api.ErrLong}, {1, math.MaxUint64, 1, api.ErrLong},
		{2, 4097, 2, api.ErrForm}, {2, 1 << 31, 2, api.ErrForm}, {2, 1 << 63, 2, api.ErrForm}, {2, math.MaxUint64, 2, api.ErrForm}, {2, 1, 22, api.ErrForm}, {2, 3, 37, api.ErrForm},
		{3, 257, 3, api.ErrLong}, {3, math.MaxUint64, 3, api.ErrLong},
		{4, 1 << 32, 4, api.ErrLong}, {4, math.MaxUint64, 4, api.ErrLong}, {6, 2, 6, api.ErrForm}, {6, math.MaxUint64, 6, api.ErrForm}, {7, 257, 7, api.ErrLong}, {7, 1 << 40, 7, api.ErrLong},
		{8, 3, 8, api.ErrForm}, {8, math.MaxUint64, 8, api.ErrForm}, {8, 0, 22, api.ErrForm}, {9, 3, 22, api.ErrForm}, {9, 1 << 31, 22, api.ErrForm}, {9, 1<<31 + 1, 9, api.ErrLong},
		{10, 0xd800, 22, api.ErrForm}, {10, 0xdfff, 22, api.ErrForm}, {10, 0x110000, 10, api.ErrLong}, {11, 1 << 32, 11, api.ErrLong},
		{13, 0, 22, api.ErrForm}, {14, 3, 22, api.ErrForm}, {15, 0xd800, 22, api.ErrForm}, {15, 1 << 32, 15, api.ErrLong},
		{19, 1, 22, api.ErrForm}, {20, 1, 22, api.ErrForm}, {21, 1 << 40, 21, api.ErrLong},
		{23, 1 << 32, 23, api.ErrLong}, {25, 2, 25, api.ErrForm}, {26, 257, 26, api.ErrLong},
		{27, 1 << 32, 27, api.ErrLong}, {29, 7, 29, api.ErrForm}, {30, 300, 30, api.ErrLong}, {31, 9, 31, api.ErrForm}, {31, 1, 37, api.ErrForm}, {32, 2, 35, api.ErrForm}, {33, 0xdc00, 35, api.ErrForm}, {34, 1 << 33, 34, api.ErrLong},
		{36, 4097, 36, api.ErrLong}, {36, math.MaxUint64, 36, api.ErrLong}, {37, 0xd800, 37, api.ErrForm}, {37, 0x110000, 37, api.ErrForm}, {37, 1<<32 + 'b', 37, api.ErrForm}, {37, math.MaxUint64, 37, api.ErrForm},
		{38, 17, 38, api.ErrLong}, {38, math.MaxUint64, 38, api.ErrLong},
		{39, 1 << 32, 39, api.ErrLong}, {39, math.MaxUint32, 44, api.ErrForm}, {40, 1<<40 + 65, 41, api.ErrForm}, {40, math.MaxUint64, 41, api.ErrForm}, {41, 2, 41, api.ErrForm}, {41, 4097, 41, api.ErrForm}, {41, 1 << 63, 41, api.ErrForm}, {41, math.MaxUint64, 41, api.ErrForm},
		{42, 1 << 32, 42, api.ErrLong}, {42, 3, 44, api.ErrForm}, {42, 2, 44, api.ErrForm}, {42, 0, 44, api.ErrForm}, {43, 1<<40 + 65, 44, api.ErrForm}, {44, 2, 44, api.ErrForm},
	}
}

// P13.7: each thing that may be wrong, alone, ahead of each place where the bytes end, and with each other one: the first one that is told counts.
func TestParseFaults(t *testing.T) {
	good := record()
	for _, x := range faults() {
		bad := slices.Clone(good)
		bad[x.at] = x.number
		wantParse(t, bytesOf(bad...), x.want)
		wantParse(t, append(bytesOf(bad...), 0), x.want)
		for size := range good {
			if size > x.told {
				wantParse(t, bytesOf(bad[:size]...), x.want)
			} else {
				wantParse(t, bytesOf(bad[:size]...), api.ErrShort)
			}
		}
		for _, y := range faults() {
			two := slices.Clone(bad)
			two[y.at] = y.number
			if y.at > x.told {
				wantParse(t, bytesOf(two...), x.want)
			} else {
				wantParse(t, bytesOf(two...), parsed(two))
			}
		}
	}
}

// P13.7: numbers that may be, at each place, to the last one.
func TestParseMay(t *testing.T) {
	for _, x := range []struct {
		at     int
		number uint64
	}{
		{0, 0}, {0, math.MaxUint64}, {1, 0}, {1, 1<<40 - 3}, {4, 0}, {4, math.MaxUint32}, {5, 0}, {5, math.MaxUint64}, {6, 1}, {9, 0}, {9, 1}, {10, 0}, {10, 0x10ffff}, {10, 0xd7ff}, {10, 0xe000}, {11, math.MaxUint32}, {12, math.MaxUint64},
		{14, 1}, {14, 2}, {15, 0}, {15, 0x10ffff}, {23, math.MaxUint32}, {25, 0}, {32, 0}, {37, 0}, {37, 0x10ffff}, {37, 0xd7ff}, {37, 0xe000},
		{39, 0}, {39, math.MaxUint32 - 1}, {40, 0}, {40, 1<<40 + 64}, {41, 0}, {41, 1}, {42, 4}, {43, 1<<40 + 64}, {44, 1},
	} {
		good := record()
		good[x.at] = x.number
		wantParse(t, bytesOf(good...), api.OK)
	}
}

// P13.7: as many operations, units, code points and clients as may be, and one more; the longest text, at From, at Now and between.
func TestParseMost(t *testing.T) {
	for _, n := range []int{255, 256, 257} {
		ops := slices.Concat([]uint64{0, 0, 0, uint64(n)}, slices.Repeat([]uint64{1, 1, 0, 0}, n), []uint64{0, 0})
		units := slices.Concat([]uint64{0, 0, 0, 1, 1, 1, 0, uint64(n)}, slices.Repeat([]uint64{1, 0, 'a', 1, 1}, n), []uint64{uint64(n)}, slices.Repeat([]uint64{'a'}, n), []uint64{0})
		nops := slices.Concat([]uint64{0, 0, 0, 1, 1, 1, 0, uint64(n)}, slices.Repeat([]uint64{0, 0, 0, 1, 1}, n), []uint64{0, 0})
		want := api.OK
		if n > 256 {
			want = api.ErrLong
		}
		wantParse(t, bytesOf(ops...), want)
		wantParse(t, bytesOf(units...), want)
		wantParse(t, bytesOf(nops...), want)
	}
	for _, n := range []uint64{4095, 4096, 4097, 4098} {
		text := slices.Repeat([]uint64{'t'}, int(n))
		form := api.OK
		if n > 4096 {
			form = api.ErrForm
		}
		// At From and at Now; at Now alone; at From alone; between alone; within a row alone.
		wantParse(t, bytesOf(slices.Concat([]uint64{0, 0, n, 0, n}, text, []uint64{0})...), form)
		wantParse(t, bytesOf(slices.Concat([]uint64{0, 0, n - 1, 1, 1, 1, 0, 1, 1, 0, 't', 1, 1, n}, text, []uint64{0})...), form)
		wantParse(t, bytesOf(slices.Concat([]uint64{0, 0, n, 1, 1, 1, 0, 1, 2, 0, 't', 1, 1, n - 1}, text[1:], []uint64{0})...), form)
		wantParse(t, bytesOf(slices.Concat([]uint64{0, 0, n - 1, 2, 1, 1, 0, 1, 1, 0, 't', 1, 1, 1, 1, 0, 1, 2, 0, 't', 1, 1, n - 1}, text[1:], []uint64{0})...), form)
		if n < 4098 {
			wantParse(t, bytesOf(slices.Concat([]uint64{0, 0, n - 1, 1, 1, 1, 0, 2, 1, 0, 't', 1, 1, 2, 0, 't', 1, 1, n - 1}, text[1:], []uint64{0})...), api.OK)
		}
	}
	// How many code points there are is told ahead of how many there would have to be.
	for n, want := range map[uint64]api.Errno{4095: api.ErrForm, 4096: api.OK, 4097: api.ErrLong} {
		wantParse(t, bytesOf(slices.Concat([]uint64{0, 0, 4096, 0, n}, slices.Repeat([]uint64{'t'}, int(n)), []uint64{0})...), want)
	}
	for _, n := range []int{15, 16, 17} {
		seats := []uint64{0, 0, 0, 0, 0, uint64(n)}
		for client := range uint64(n) {
			seats = append(seats, client*7, client, 0)
		}
		want := api.OK
		if n > 16 {
			want = api.ErrLong
		}
		wantParse(t, bytesOf(seats...), want)
	}
}

// P13.7: no operation makes a revision above MaxRev.
func TestParseMaxRev(t *testing.T) {
	for ops := range 4 {
		for behind := range 5 {
			b := slices.Concat([]uint64{0, uint64(api.MaxRev - behind), 0, uint64(ops)}, slices.Repeat([]uint64{1, 1, 0, 0}, ops), []uint64{0, 0})
			want := api.OK
			if ops > behind {
				want = api.ErrForm
			}
			wantParse(t, bytesOf(b...), want)
		}
	}
}

// P13.7: numbers in more bytes than they need, or in too many, are a number's errors, at each place.
func TestParseNumbers(t *testing.T) {
	good := record()
	for at := range good {
		for _, number := range [][]byte{{0x80, 0}, {0x81, 0x80, 0}, bytes.Repeat([]byte{0xff}, 9), bytes.Repeat([]byte{0xff}, 11), {0xff, 0xff, 0xff, 0xff, 0xff, 0xff, 0xff, 0xff, 0xff, 2}} {
			_, _, want := num.Get(slices.Concat(number, bytesOf(good[at+1:]...)))
			if want == api.OK {
				continue
			}
			wantParse(t, slices.Concat(bytesOf(good[:at]...), number, bytesOf(good[at+1:]...)), want)
		}
	}
}

// P13.7: records of which any numbers are others, are wanting, or too many, held against the plain reading; what is read, written again, is the same bytes.
func TestParseChanged(t *testing.T) {
	below := chance()
	some := []uint64{0, 1, 2, 3, 4, 5, 6, 7, 'a', 16, 17, 255, 256, 257, 4095, 4096, 4097, 0xd7ff, 0xd800, 0x10ffff, 0x110000, 1 << 31, 1<<31 + 1, 1<<32 - 1, 1 << 32, 1 << 40, 1<<40 + 1, 1<<40 + 64, 1<<40 + 65, 1 << 62, 1 << 63, 1<<64 - 1}
	records := [][]uint64{record(), crowd(t).plain.numbers(), lived(t, 2).plain.numbers(), with(t, "ab", 1, 2, 3).plain.numbers()}
	seen := map[api.Errno]int{}
	for range 60000 {
		b := slices.Clone(records[below(len(records))])
		for range 1 + below(3) {
			at := below(len(b))
			switch below(8) {
			case 0:
				b = slices.Delete(b, at, at+1)
			case 1:
				b = slices.Insert(b, at, some[below(6)])
			case 2, 3, 4:
				b[at] = some[below(9)]
			default:
				b[at] = some[below(len(some))]
			}
			if len(b) == 0 {
				break
			}
		}
		want := parsed(slices.Clone(b))
		seen[want]++
		wantParse(t, bytesOf(b...), want)
	}
	for _, e := range []api.Errno{api.OK, api.ErrLong, api.ErrShort, api.ErrForm} {
		if seen[e] < 1000 {
			t.Errorf("error %d: seen %d times", e, seen[e])
		}
	}
}

// P13.7: a document that was parsed goes on as the one that was written, also where its operations have Nops, and Dels of which it is not said what they take out.
func TestParseGoesOn(t *testing.T) {
	one, two := idOf(1, 1), idOf(2, 1)
	p := newPlain()
	p.from, p.turn = 7, 1<<64-1
	p.texts = [][]api.Char{chars("ab"), chars("xa"), chars("xya")}
	p.ops = []api.Op{opOf(one, nop(two), del(1, two), ins(0, 'x', one)), opOf(two, ins(1, 'y', idOf(9, 9)))}
	p.seats = []api.Seat{{Client: 1, Pos: 3, Until: 5}, {Client: 2, Pos: 1, Until: 70}}
	d, e := Parse(bytesOf(p.numbers()...))
	if e != api.OK {
		t.Fatalf("got error %d", e)
	}
	b := &both{t, d, p}
	wantAs(t, d, p)
	// It was touched as often as can be told, and once more.
	wantErr(t, b.copy().open(3, 9, 1), api.OK)
	for rev := range uint64(11) {
		for _, client := range []uint32{1, 2, 3} {
			b.copy().undo(idOf(client, 2), rev, 4)
			b.copy().undo(idOf(client, 2), rev, 5)
		}
	}
	b.undo(idOf(1, 2), 8, 4)
	if text, e := weave.Apply(chars("xya"), d.Fetch(2, 9, 0, 5).Ops[0].Units); e != api.OK || !slices.Equal(text, d.Text()) {
		t.Errorf("got %v, error %d, want %v", text, e, d.Text())
	}
}
