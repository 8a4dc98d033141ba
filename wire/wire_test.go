package wire

import (
	"bytes"
	"math"
	"strings"
	"testing"

	"copybook/api"
	"copybook/num"
)

// thing is one thing of a record: how it is written, its bytes by the chapter's words, and whether a reader tells it.
type thing struct {
	name  string
	write func(w *Writer)
	bytes []byte
	read  func(r *Reader) bool
	zero  func(r *Reader) bool // whether a reader tells nothing
}

func number(n uint64) thing {
	return thing{"Num", func(w *Writer) { w.Num(n) }, num.Put(nil, n),
		func(r *Reader) bool { return r.Num() == n }, func(r *Reader) bool { return r.Num() == 0 }}
}

func upto(n, most uint64) thing {
	return thing{"Upto", func(w *Writer) { w.Num(n) }, num.Put(nil, n),
		func(r *Reader) bool { return r.Upto(most) == n }, func(r *Reader) bool { return r.Upto(most) == 0 }}
}

func signed(n int64) thing {
	return thing{"Int", func(w *Writer) { w.Int(n) }, num.PutInt(nil, n),
		func(r *Reader) bool { return r.Int() == n }, func(r *Reader) bool { return r.Int() == 0 }}
}

func truth(x bool) thing {
	b := []byte{0}
	if x {
		b[0] = 1
	}
	return thing{"Bool", func(w *Writer) { w.Bool(x) }, b,
		func(r *Reader) bool { return r.Bool() == x }, func(r *Reader) bool { return !r.Bool() }}
}

func row(b []byte, most int) thing {
	return thing{"Bytes", func(w *Writer) { w.Bytes(b) }, append(num.Put(nil, uint64(len(b))), b...),
		func(r *Reader) bool { return bytes.Equal(r.Bytes(most), b) }, func(r *Reader) bool { return len(r.Bytes(most)) == 0 }}
}

func text(s string, most int) thing {
	return thing{"Str", func(w *Writer) { w.Str(s) }, append(num.Put(nil, uint64(len(s))), s...),
		func(r *Reader) bool { return r.Str(most) == s }, func(r *Reader) bool { return r.Str(most) == "" }}
}

func count(n, most int) thing {
	return thing{"Count", func(w *Writer) { w.Num(uint64(n)) }, num.Put(nil, uint64(n)),
		func(r *Reader) bool { return r.Count(most) == n }, func(r *Reader) bool { return r.Count(most) == 0 }}
}

// things are things of every kind, at their edges too; all of them can be read.
func things() []thing {
	long := bytes.Repeat([]byte{0xff, 0, 0x80}, 100)
	out := []thing{
		truth(true), truth(false),
		row(nil, 0), row([]byte{}, -1), row(nil, math.MinInt), row([]byte{0}, 1), row([]byte{1, 2, 3}, 3), row([]byte{0x80, 0xff}, math.MaxInt), row(long[:127], 127), row(long[:128], 128), row(long, 1000),
		text("", 0), text("", -7), text("ab", 2), text("\x00\xff\xc3", 9), text("zwölf", 6), text(strings.Repeat("x", 300), 300),
		upto(0, 0), upto(5, 5), upto(5, 6), upto(math.MaxUint64, math.MaxUint64),
		count(0, 0), count(0, -1), count(0, math.MinInt), count(7, 7), count(300, 4096), count(math.MaxInt, math.MaxInt),
	}
	for k := range 64 {
		edge := uint64(1) << k
		out = append(out, number(edge-1), number(edge), number(-edge), signed(int64(edge)), signed(int64(edge-1)), signed(-int64(edge)))
	}
	return append(out, signed(math.MinInt64), signed(math.MaxInt64), number(math.MaxUint64))
}

func whole(things []thing) []byte {
	var out []byte
	for _, x := range things {
		out = append(out, x.bytes...)
	}
	return out
}

// records are no thing, each single one, each with a neighbour, and all of them.
func records() [][]thing {
	all := things()
	out := [][]thing{nil, all}
	for i := range all {
		out = append(out, all[i:i+1], []thing{all[i], all[(7*i+3)%len(all)]})
	}
	return out
}

func wantBytes(t *testing.T, what string, got []byte, want ...byte) {
	t.Helper()
	if !bytes.Equal(got, want) {
		t.Errorf("%s: got % x, want % x", what, got, want)
	}
}

func wantErr(t *testing.T, what string, got, want api.Errno) {
	t.Helper()
	if got != want {
		t.Errorf("%s: got error %d, want %d", what, got, want)
	}
}

// wantDead: the reader has that error, tells nothing by any call, and keeps the error behind all of them.
func wantDead(t *testing.T, what string, r *Reader, want api.Errno) {
	t.Helper()
	for range 2 {
		wantErr(t, what, r.Err(), want)
		if got := r.Left(); got != 0 {
			t.Errorf("%s: %d bytes left behind an error", what, got)
		}
		for _, x := range []thing{number(0), upto(0, 9), signed(0), truth(false), row(nil, 9), text("", 9), count(0, 9), upto(0, 0), row(nil, -1)} {
			if !x.zero(r) {
				t.Errorf("%s: %s tells something behind an error", what, x.name)
			}
			wantErr(t, what+", behind "+x.name, r.Err(), want)
		}
		r.Fail(api.ErrSum)
		r.Fail(api.OK)
		wantErr(t, what+", behind Fail", r.Err(), want)
		wantErr(t, what+", End", r.End(), want)
	}
}

// P3.1: each thing's bytes, and nothing of a writer as it is declared.
func TestWriterThings(t *testing.T) {
	var none Writer
	wantBytes(t, "nothing written", none.Out())
	wantBytes(t, "nothing written", new(Writer).Out())
	for _, x := range []struct {
		name  string
		write func(w *Writer)
		want  []byte
	}{
		{"Num 0", func(w *Writer) { w.Num(0) }, []byte{0}},
		{"Num 300", func(w *Writer) { w.Num(300) }, []byte{0xac, 2}},
		{"the greatest", func(w *Writer) { w.Num(math.MaxUint64) }, append(bytes.Repeat([]byte{0xff}, 9), 1)},
		{"Int 0", func(w *Writer) { w.Int(0) }, []byte{0}},
		{"Int -1", func(w *Writer) { w.Int(-1) }, []byte{1}},
		{"Int 1", func(w *Writer) { w.Int(1) }, []byte{2}},
		{"Int -150", func(w *Writer) { w.Int(-150) }, []byte{0xab, 2}},
		{"the least", func(w *Writer) { w.Int(math.MinInt64) }, append(bytes.Repeat([]byte{0xff}, 9), 1)},
		{"false", func(w *Writer) { w.Bool(false) }, []byte{0}},
		{"true", func(w *Writer) { w.Bool(true) }, []byte{1}},
		{"Bytes nil", func(w *Writer) { w.Bytes(nil) }, []byte{0}},
		{"Bytes none", func(w *Writer) { w.Bytes([]byte{}) }, []byte{0}},
		{"Bytes", func(w *Writer) { w.Bytes([]byte{0, 0xff}) }, []byte{2, 0, 0xff}},
		{"Bytes 200", func(w *Writer) { w.Bytes(make([]byte, 200)) }, append([]byte{0xc8, 1}, make([]byte, 200)...)},
		{"Str none", func(w *Writer) { w.Str("") }, []byte{0}},
		{"Str", func(w *Writer) { w.Str("ab") }, []byte{2, 'a', 'b'}},
		{"Str of more than ASCII", func(w *Writer) { w.Str("é\xff") }, []byte{3, 0xc3, 0xa9, 0xff}},
	} {
		var w Writer
		x.write(&w)
		wantBytes(t, x.name, w.Out(), x.want...)
		x.write(&w)
		wantBytes(t, x.name+", twice", w.Out(), append(bytes.Clone(x.want), x.want...)...)
	}
}

// P3.1: each call writes behind what was written, and Out is all of it at any time.
func TestWriterBehind(t *testing.T) {
	var w Writer
	var want []byte
	for range 3 {
		for _, x := range things() {
			x.write(&w)
			want = append(want, x.bytes...)
			wantBytes(t, "behind "+x.name, w.Out(), want...)
		}
	}
	wantBytes(t, "once more", w.Out(), want...)
}

// P3.1, R3: Out is new memory, each time, and the room behind it too; what is given stays and is not kept.
func TestWriterMemory(t *testing.T) {
	var w Writer
	given := []byte{1, 2, 3, 4}
	w.Bytes(given[:3])
	wantBytes(t, "what was given", given, 1, 2, 3, 4)
	given[0] = 9
	first := w.Out()
	wantBytes(t, "what was written", first, 3, 1, 2, 3)
	first[1] = 8
	_ = append(first, 7, 7, 7)
	second := w.Out()
	wantBytes(t, "the second Out", second, 3, 1, 2, 3)
	w.Num(5)
	wantBytes(t, "the second Out, later", second, 3, 1, 2, 3)
	wantBytes(t, "the third Out", w.Out(), 3, 1, 2, 3, 5)
	wantBytes(t, "the first Out", first, 3, 8, 2, 3)
	w.Bytes(w.Out())
	wantBytes(t, "its own Out", w.Out(), 3, 1, 2, 3, 5, 5, 3, 1, 2, 3, 5)
}

// P3.1: a writer that was copied, and its copy, write behind what was written, and not over each other.
func TestWriterCopies(t *testing.T) {
	for size := range 40 {
		var w Writer
		var want []byte
		for i := range size {
			w.Num(uint64(i))
			want = append(want, byte(i))
		}
		other, third := w, w
		w.Num(100)
		other.Str("xyz")
		w.Num(101)
		other.Bool(true)
		wantBytes(t, "the writer", w.Out(), append(bytes.Clone(want), 100, 101)...)
		wantBytes(t, "its copy", other.Out(), append(bytes.Clone(want), 3, 'x', 'y', 'z', 1)...)
		wantBytes(t, "a copy that wrote nothing", third.Out(), want...)
	}
}

// P3.1: a writer that is none writes nothing.
func TestWriterNone(t *testing.T) {
	var w *Writer
	for _, x := range things() {
		x.write(w)
		wantBytes(t, x.name, w.Out())
	}
}

// P3.2: how many bytes are not read, and no error at first.
func TestLeft(t *testing.T) {
	for _, b := range [][]byte{nil, {}, {0}, {0x80}, make([]byte, 300)} {
		r := New(b)
		wantErr(t, "at first", r.Err(), api.OK)
		if got := r.Left(); got != len(b) {
			t.Errorf("Left: got %d of %d", got, len(b))
		}
	}
	all := things()
	b := whole(all)
	r, left := New(b), len(b)
	for _, x := range all {
		if !x.read(r) {
			t.Errorf("%s: read something else", x.name)
		}
		left -= len(x.bytes)
		if got := r.Left(); got != left {
			t.Errorf("behind %s: got %d left, want %d", x.name, got, left)
		}
		wantErr(t, "behind "+x.name, r.Err(), api.OK)
	}
	wantErr(t, "at the end", r.End(), api.OK)
	r.Num()
	wantDead(t, "behind the end", r, api.ErrShort)
}

// P3.2: a reader of the bytes as they were; P3.3, R3: what is told is new memory, and the room behind it too.
func TestReaderMemory(t *testing.T) {
	given := []byte{2, 'a', 'b', 2, 'a', 'b', 2, 'c', 'd', 5}
	kept := bytes.Clone(given)
	r, again := New(given), New(given)
	other := *r
	first := r.Bytes(2)
	wantBytes(t, "what was given", given, kept...)
	first[0] = 'x'
	_ = append(first, 9, 9, 9)
	wantBytes(t, "what was given", given, kept...)
	wantBytes(t, "another reader", again.Bytes(2), 'a', 'b')
	wantBytes(t, "a copy of the reader", other.Bytes(2), 'a', 'b')
	for i := range given {
		given[i] = 0xee
	}
	if got := r.Str(2); got != "ab" {
		t.Errorf("Str: got %q", got)
	}
	second := r.Bytes(2)
	wantBytes(t, "the second", second, 'c', 'd')
	second[1] = 'y'
	wantBytes(t, "the first", first, 'x', 'b')
	if got := r.Num(); got != 5 {
		t.Errorf("Num: got %d", got)
	}
	wantErr(t, "at the end", r.End(), api.OK)
}

// P3.3: the calls that read, by the chapter's example and beside it.
func TestReaderThings(t *testing.T) {
	example := []byte{0xac, 2, 1, 2, 'a', 'b'}
	var w Writer
	w.Num(300)
	w.Bool(true)
	w.Str("ab")
	wantBytes(t, "the example", w.Out(), example...)
	r := New(example)
	if n, x, s := r.Num(), r.Bool(), r.Str(1); n != 300 || !x || s != "" {
		t.Errorf("got %d, %t, %q", n, x, s)
	}
	wantDead(t, "the example", r, api.ErrLong)
	r = New([]byte{3, 4, 0, 1, 9})
	if a, b, c, d, e := r.Int(), r.Int(), r.Bool(), r.Bool(), r.Count(9); a != -2 || b != 2 || c || !d || e != 9 {
		t.Errorf("got %d, %d, %t, %t, %d", a, b, c, d, e)
	}
	wantErr(t, "at the end", r.End(), api.OK)
}

// P3.3: a wrong thing is refused by name, whatever stands behind it, and nothing is told.
func TestReaderRefuses(t *testing.T) {
	full, zero := bytes.Repeat([]byte{0xff}, 10), []byte{0x81, 0}
	greatest := num.Put(nil, math.MaxUint64)
	beyond := num.Put(nil, math.MaxInt+1)
	for _, x := range []struct {
		name string
		b    []byte
		call thing
		want api.Errno
	}{
		{"one above most", []byte{6}, upto(0, 5), api.ErrLong},
		{"above 0", []byte{1}, upto(0, 0), api.ErrLong},
		{"the greatest", greatest, upto(0, math.MaxUint64-1), api.ErrLong},
		{"2", []byte{2}, truth(false), api.ErrForm},
		{"256", []byte{0x80, 2}, truth(false), api.ErrForm},
		{"257", []byte{0x81, 2}, truth(false), api.ErrForm},
		{"the greatest", greatest, truth(false), api.ErrForm},
		{"one above most", []byte{5}, count(0, 4), api.ErrLong},
		{"most below 0", []byte{1}, count(0, -1), api.ErrLong},
		{"the least most", []byte{1}, count(0, math.MinInt), api.ErrLong},
		{"above every int", beyond, count(0, math.MaxInt), api.ErrLong},
		{"the greatest", greatest, count(0, math.MaxInt), api.ErrLong},
		{"the greatest, most below 0", greatest, count(0, -1), api.ErrLong},
		{"one above most", []byte{3, 1, 1, 1}, row(nil, 2), api.ErrLong},
		{"above most, and short", []byte{3, 1}, row(nil, 2), api.ErrLong},
		{"above most, with no bytes", []byte{1}, row(nil, 0), api.ErrLong},
		{"most below 0", []byte{1, 1}, row(nil, -1), api.ErrLong},
		{"the least most", []byte{1, 1}, row(nil, math.MinInt), api.ErrLong},
		{"above every int", beyond, row(nil, math.MaxInt), api.ErrLong},
		{"the greatest", greatest, row(nil, math.MaxInt), api.ErrLong},
		{"one above most", []byte{3, 'a', 'b', 'c'}, text("", 2), api.ErrLong},
		{"above most, and short", []byte{3, 'a'}, text("", 2), api.ErrLong},
		{"most below 0", []byte{1, 'a'}, text("", -1), api.ErrLong},
		{"the least most", []byte{1, 'a'}, text("", math.MinInt), api.ErrLong},
		{"the greatest", greatest, text("", math.MaxInt), api.ErrLong},
	} {
		for _, rest := range [][]byte{nil, {0}, {1, 2, 3, 4}} {
			refuse(t, x.name, append(bytes.Clone(x.b), rest...), x.call, x.want)
		}
	}
	for _, call := range []thing{number(0), upto(0, 9), signed(0), truth(false), row(nil, 9), text("", 9), count(0, 9), row(nil, -1), upto(0, 0)} {
		refuse(t, "nothing", nil, call, api.ErrShort)
		for size := 1; size < 10; size++ {
			refuse(t, "a number's beginning", full[:size], call, api.ErrShort)
		}
		refuse(t, "no number", full, call, api.ErrForm)
		refuse(t, "no number", append(bytes.Repeat([]byte{0xff}, 9), 2), call, api.ErrForm)
		refuse(t, "more bytes than it takes", zero, call, api.ErrForm)
		refuse(t, "more bytes than it takes", append(bytes.Clone(zero), 1, 1), call, api.ErrForm)
	}
	huge := num.Put(nil, math.MaxInt)
	for _, call := range []thing{row(nil, math.MaxInt), text("", math.MaxInt)} {
		refuse(t, "no bytes", []byte{1}, call, api.ErrShort)
		refuse(t, "one too few", []byte{3, 'a', 'b'}, call, api.ErrShort)
		refuse(t, "nearly all wanting", append(huge, 1, 2), call, api.ErrShort)
	}
	refuse(t, "the example", []byte{5, 'a'}, row(nil, 9), api.ErrShort)
	refuse(t, "as many as may be", []byte{5, 'a'}, text("", 5), api.ErrShort)
}

// refuse reads b twice: as it is, and behind a number, so that the error is no matter of where the reader began.
func refuse(t *testing.T, what string, b []byte, call thing, want api.Errno) {
	t.Helper()
	for _, ahead := range [][]byte{nil, {0x80, 1}} {
		r := New(append(bytes.Clone(ahead), b...))
		if len(ahead) > 0 && r.Num() != 0x80 {
			t.Errorf("%s: % x: the number ahead", what, b)
		}
		wantErr(t, what+", ahead", r.Err(), api.OK)
		if !call.zero(r) {
			t.Errorf("%s of %s: % x tells something", call.name, what, b)
		}
		wantDead(t, call.name+" of "+what, r, want)
	}
}

// P3.3: what is just within most is told.
func TestReaderWithin(t *testing.T) {
	for most := range 5 {
		for n := range most + 1 {
			b := bytes.Repeat([]byte{'z'}, n)
			for _, x := range []thing{upto(uint64(n), uint64(most)), count(n, most), row(b, most), text(string(b), most)} {
				r := New(append(bytes.Clone(x.bytes), 7))
				if !x.read(r) || r.Err() != api.OK || r.Left() != 1 {
					t.Errorf("%s of %d upto %d: error %d, %d left", x.name, n, most, r.Err(), r.Left())
				}
			}
		}
	}
}

// P3.4: the first error stays; OK is none.
func TestFail(t *testing.T) {
	for _, e := range []api.Errno{api.ErrArg, api.ErrNil, api.ErrLong, api.ErrShort, api.ErrForm, api.ErrState, -1, 1000} {
		r := New([]byte{1, 1, 1})
		r.Fail(api.OK)
		wantErr(t, "behind OK", r.Err(), api.OK)
		if r.Num() != 1 || r.Left() != 2 {
			t.Error("Fail(OK) stopped the reader")
		}
		r.Fail(e)
		r.Fail(api.ErrThere)
		wantDead(t, "Fail", r, e)
	}
	r := New(nil)
	r.Fail(api.ErrText)
	wantDead(t, "Fail of a reader of nothing", r, api.ErrText)
	r = New([]byte{2})
	r.Bool()
	r.Fail(api.ErrText)
	wantDead(t, "Fail behind an error", r, api.ErrForm)
}

// P3.4: bytes that are left are ErrLong at the end, and from then on.
func TestEnd(t *testing.T) {
	wantErr(t, "of nothing", New(nil).End(), api.OK)
	for size := 1; size < 5; size++ {
		r := New(make([]byte, size))
		for range size - 1 {
			r.Num()
		}
		wantErr(t, "ahead of the end", r.Err(), api.OK)
		wantErr(t, "one left", r.End(), api.ErrLong)
		wantDead(t, "one left", r, api.ErrLong)
		r = New(make([]byte, size))
		wantErr(t, "all left", r.End(), api.ErrLong)
		wantDead(t, "all left", r, api.ErrLong)
		r = New(make([]byte, size))
		for range size {
			r.Bool()
		}
		wantErr(t, "none left", r.End(), api.OK)
		wantErr(t, "none left, again", r.End(), api.OK)
		wantErr(t, "none left, behind it", r.Err(), api.OK)
	}
	r := New([]byte{2, 0})
	r.Bool()
	wantErr(t, "behind an error", r.End(), api.ErrForm)
	r = New([]byte{2, 0})
	r.Fail(api.ErrGone)
	wantErr(t, "behind Fail", r.End(), api.ErrGone)
}

// P3.2: ErrNil of a reader that New did not make, and of none.
func TestReaderNotMade(t *testing.T) {
	var declared Reader
	for _, r := range []*Reader{nil, &declared, new(Reader), {}} {
		wantDead(t, "not made", r, api.ErrNil)
		r.Fail(api.ErrForm)
		wantDead(t, "not made, behind Fail", r, api.ErrNil)
		wantErr(t, "not made, at the end", r.End(), api.ErrNil)
	}
}

// P3.5: what was written is read, call by call, and nothing is left.
func TestBack(t *testing.T) {
	for _, record := range records() {
		var w Writer
		for _, x := range record {
			x.write(&w)
		}
		b := w.Out()
		wantBytes(t, "written", b, whole(record)...)
		r := New(b)
		for _, x := range record {
			if !x.read(r) {
				t.Errorf("%s of % x: read something else, error %d", x.name, b, r.Err())
			}
		}
		if r.Left() != 0 || r.End() != api.OK {
			t.Errorf("% x: %d left, error %d", b, r.Left(), r.Err())
		}
	}
}

// copyThing reads one thing of a kind, and writes it again.
func copyThing(kind int, r *Reader, w *Writer) {
	switch kind {
	case 0:
		w.Num(r.Num())
	case 1:
		w.Num(r.Upto(200))
	case 2:
		w.Int(r.Int())
	case 3:
		w.Bool(r.Bool())
	case 4:
		w.Bytes(r.Bytes(3))
	case 5:
		w.Str(r.Str(3))
	case 6:
		w.Num(uint64(r.Count(3)))
	}
}

// P3.5: what is read without an error, up to the end, written again, is the same bytes.
func TestAgain(t *testing.T) {
	edges := []byte{0, 1, 2, 3, 0x7f, 0x80, 0x81, 0xff}
	good := 0
	for first := range 7 {
		for second := range 7 {
			for i := range len(edges) * len(edges) * len(edges) * len(edges) {
				b := []byte{edges[i%8], edges[i/8%8], edges[i/64%8], edges[i/512]}
				for size := range 5 {
					r, w := New(b[:size]), Writer{}
					copyThing(first, r, &w)
					copyThing(second, r, &w)
					if r.End() == api.OK {
						good++
						wantBytes(t, "again", w.Out(), b[:size]...)
					}
				}
			}
		}
	}
	if good < 1000 {
		t.Errorf("only %d records were read", good)
	}
}

// P3.6: a beginning of a record is read up to where something is wanting, and that is ErrShort.
func TestBeginnings(t *testing.T) {
	for _, record := range records() {
		b := whole(record)
		for size := 0; size < len(b); size += 1 + len(b)/200 {
			r, end := New(b[:size]), 0
			for _, x := range record {
				end += len(x.bytes)
				if end > size {
					if !x.zero(r) {
						t.Fatalf("%s tells something of % x", x.name, b[:size])
					}
					break
				}
				if !x.read(r) || r.Err() != api.OK {
					t.Fatalf("%s: % x: read something else, error %d", x.name, b[:size], r.Err())
				}
			}
			wantDead(t, "a beginning", r, api.ErrShort)
		}
	}
}

// R1, P3.1: a long record is written in time that goes with its length.
func TestLongRecord(t *testing.T) {
	var w Writer
	const long = 1 << 20
	for i := range uint64(long) {
		w.Num(i & 0x7f)
	}
	r := New(w.Out())
	for i := range uint64(long) {
		if got := r.Num(); got != i&0x7f {
			t.Fatalf("number %d: got %d", i, got)
		}
	}
	wantErr(t, "the end", r.End(), api.OK)
}
