package utf

import (
	"bytes"
	"cmp"
	"math"
	"slices"
	"testing"
	"unicode/utf8"

	"copybook/api"
)

// above is one more than the greatest code point.
const above = 0x110000

// edges are the code points at which something changes, each with its bytes as the chapter's words tell them.
func edges() []struct {
	c api.Char
	b []byte
} {
	return []struct {
		c api.Char
		b []byte
	}{
		{0, []byte{0}},
		{1, []byte{1}},
		{0x41, []byte{0x41}},
		{0x7e, []byte{0x7e}},
		{0x7f, []byte{0x7f}},
		{0x80, []byte{0xc2, 0x80}},
		{0xbf, []byte{0xc2, 0xbf}},
		{0xc0, []byte{0xc3, 0x80}},
		{0x7fe, []byte{0xdf, 0xbe}},
		{0x7ff, []byte{0xdf, 0xbf}},
		{0x800, []byte{0xe0, 0xa0, 0x80}},
		{0xfff, []byte{0xe0, 0xbf, 0xbf}},
		{0x1000, []byte{0xe1, 0x80, 0x80}},
		{0x20ac, []byte{0xe2, 0x82, 0xac}},
		{0xd7ff, []byte{0xed, 0x9f, 0xbf}},
		{0xe000, []byte{0xee, 0x80, 0x80}},
		{0xfffd, []byte{0xef, 0xbf, 0xbd}},
		{0xffff, []byte{0xef, 0xbf, 0xbf}},
		{0x10000, []byte{0xf0, 0x90, 0x80, 0x80}},
		{0x10348, []byte{0xf0, 0x90, 0x8d, 0x88}},
		{0x3ffff, []byte{0xf0, 0xbf, 0xbf, 0xbf}},
		{0x40000, []byte{0xf1, 0x80, 0x80, 0x80}},
		{0xfffff, []byte{0xf3, 0xbf, 0xbf, 0xbf}},
		{0x100000, []byte{0xf4, 0x80, 0x80, 0x80}},
		{0x10ffff, []byte{0xf4, 0x8f, 0xbf, 0xbf}},
	}
}

// wrong are those that may not be.
func wrong() []api.Char {
	return []api.Char{-1, -2, -0x80, -0x41, -0xd800, math.MinInt32, math.MinInt32 + 0x41, 0xd800, 0xd801, 0xdbff, 0xdc00, 0xdffe, 0xdfff, above, above + 1, above + 0x41, 0x1fffff, 0x200000, 0x7fffffff}
}

// refused are rows that are no text's bytes, by what is wrong with them.
func refused() map[string][][]byte {
	return map[string][][]byte{
		"more bytes than need be": {
			{0xc0, 0x80}, {0xc0, 0xaf}, {0xc1, 0x81}, {0xc1, 0xbf},
			{0xe0, 0x80, 0x80}, {0xe0, 0x81, 0x81}, {0xe0, 0x82, 0x80}, {0xe0, 0x9f, 0xbf},
			{0xf0, 0x80, 0x80, 0x80}, {0xf0, 0x80, 0x81, 0x81}, {0xf0, 0x82, 0x82, 0xac}, {0xf0, 0x8f, 0xbf, 0xbf},
			{0xf8, 0x80, 0x80, 0x80, 0x80}, {0xf8, 0x88, 0x80, 0x80, 0x80}, {0xfc, 0x80, 0x80, 0x80, 0x80, 0x80},
		},
		"d800 to dfff": {
			{0xed, 0xa0, 0x80}, {0xed, 0xa0, 0x81}, {0xed, 0xaf, 0xbf}, {0xed, 0xb0, 0x80}, {0xed, 0xbf, 0xbf},
			{0xed, 0xa0, 0x81, 0xed, 0xb0, 0xb7}, {0xf0, 0x8d, 0xa0, 0x80},
		},
		"more than 10ffff": {
			{0xf4, 0x90, 0x80, 0x80}, {0xf4, 0xbf, 0xbf, 0xbf}, {0xf5, 0x80, 0x80, 0x80}, {0xf7, 0xbf, 0xbf, 0xbf},
		},
		"cut": {
			{0xc2}, {0xdf}, {0xe2}, {0xe2, 0x82}, {0xe0, 0xa0}, {0xed, 0x9f}, {0xef, 0xbf}, {0xf0}, {0xf0, 0x90}, {0xf0, 0x90, 0x8d}, {0xf4, 0x8f, 0xbf},
			{0xc2, 0x41}, {0xe2, 0x41}, {0xe2, 0x82, 0x41}, {0xf0, 0x90, 0x8d, 0x41}, {0xf0, 0x41, 0x41, 0x41},
			{0xc2, 0}, {0xc2, 0x7f}, {0xc2, 0xc0}, {0xc2, 0xff}, {0xe2, 0x82, 0xc2}, {0xe2, 0x02, 0xac}, {0xe2, 0xc2, 0xac}, {0xe2, 0x82, 0x2c},
			{0xc2, 0xc2, 0x80}, {0xe2, 0x82, 0xe2, 0x82, 0xac}, {0xf0, 0x90, 0xcd, 0x88}, {0xf0, 0x90, 0x8d, 0xc8},
		},
		"no beginning": {
			{0x80}, {0x81}, {0xbf}, {0x80, 0x80}, {0x82, 0xac}, {0xf8}, {0xfe}, {0xff}, {0xfe, 0x80, 0x80}, {0xff, 0xff}, {0xc0}, {0xc1}, {0xf5},
			{0xc2, 0x80, 0x80}, {0xe2, 0x82, 0xac, 0xac}, {0xf0, 0x90, 0x8d, 0x88, 0x88}, {0x41, 0x80},
		},
	}
}

// may is the chapter's words, apart from May's own way.
func may(c api.Char) bool {
	if c < 0 || c > 0x10ffff {
		return false
	}
	return c/0x800 != 0xd800/0x800
}

// plain is a code point's bytes by the chapter's words, bit by bit from the lowest.
func plain(c api.Char) []byte {
	if c <= 0x7f {
		return []byte{byte(c)}
	}
	var behind []byte
	room := api.Char(1 << 5) // what is left for the first of two bytes
	first := 0xc0
	for {
		behind = append([]byte{byte(0x80 + c%0x40)}, behind...)
		c /= 0x40
		if c < room {
			return append([]byte{byte(first) + byte(c)}, behind...)
		}
		room /= 2
		first = 0x80 | first>>1
	}
}

// plainText is a text's bytes, one code point's behind the other.
func plainText(text []api.Char) []byte {
	var out []byte
	for _, c := range text {
		out = append(out, plain(c)...)
	}
	return out
}

// texts are no text, each edge alone and beside each other, and mixed ones of many lengths.
func texts() [][]api.Char {
	out := [][]api.Char{nil, {}}
	all := edges()
	var row []api.Char
	for _, x := range all {
		row = append(row, x.c)
		out = append(out, []api.Char{x.c}, slices.Clone(row))
		for _, y := range all {
			out = append(out, []api.Char{x.c, y.c})
		}
	}
	seed := uint64(4)
	for size := range 60 {
		mixed := make([]api.Char, size)
		for i := range mixed {
			seed = seed*6364136223846793005 + 1442695040888963407
			mixed[i] = api.Char(seed >> 33 % above >> (seed >> 60))
			if !may(mixed[i]) {
				mixed[i] = 0xfffd
			}
		}
		out = append(out, mixed)
	}
	return out
}

// everyRow hands on each row of up to three bytes, and rows of four and five whose bytes are those at which something changes.
func everyRow(hand func([]byte)) {
	hand(nil)
	for a := range 256 {
		hand([]byte{byte(a)})
		for b := range 256 {
			hand([]byte{byte(a), byte(b)})
			for c := range 256 {
				hand([]byte{byte(a), byte(b), byte(c)})
			}
		}
	}
	turns := []byte{0, 0x41, 0x7f, 0x80, 0x8f, 0x90, 0x9f, 0xa0, 0xbf, 0xc0, 0xc2, 0xe0, 0xed, 0xf0, 0xff}
	for _, b := range turns {
		for _, c := range turns {
			for _, d := range turns {
				for a := range 256 {
					hand([]byte{byte(a), b, c, d})
					hand([]byte{0x41, byte(a), b, c, d})
				}
			}
		}
	}
}

func wantBytes(t *testing.T, what string, got []byte, want ...byte) {
	t.Helper()
	if !bytes.Equal(got, want) {
		t.Errorf("%s: got % x, want % x", what, got, want)
	}
}

func wantText(t *testing.T, what string, got []api.Char, want ...api.Char) {
	t.Helper()
	if !slices.Equal(got, want) {
		t.Errorf("%s: got %x, want %x", what, got, want)
	}
}

func encoded(t *testing.T, text ...api.Char) []byte {
	t.Helper()
	b, e := Encode(text)
	if e != api.OK {
		t.Fatalf("Encode(%x): got error %d", text, e)
	}
	return b
}

func decoded(t *testing.T, b ...byte) []api.Char {
	t.Helper()
	text, e := Decode(b)
	if e != api.OK {
		t.Fatalf("Decode(% x): got error %d", b, e)
	}
	return text
}

func wantRefused(t *testing.T, why string, b []byte) {
	t.Helper()
	if text, e := Decode(b); e != api.ErrText || len(text) != 0 {
		t.Errorf("Decode(% x), %s: got %x, %d", b, why, text, e)
	}
}

// P4.1: each code point, and what is beside them.
func TestMayAndSize(t *testing.T) {
	check := func(c api.Char) {
		t.Helper()
		want := 0
		if may(c) {
			want = len(plain(c))
		}
		if May(c) != (want > 0) || Size(c) != want {
			t.Fatalf("%x: May %t, Size %d, want %d", c, May(c), Size(c), want)
		}
	}
	for c := api.Char(-0x1000); c < above+0x1000; c++ {
		check(c)
	}
	for k := range 31 {
		check(1 << k)
		check(1<<k - 1)
		check(-1 << k)
	}
}

// P4.1: the edges, as they are written down.
func TestMayAndSizeAtEdges(t *testing.T) {
	for _, x := range edges() {
		if !May(x.c) || Size(x.c) != len(x.b) {
			t.Errorf("%x: May %t, Size %d, want %d", x.c, May(x.c), Size(x.c), len(x.b))
		}
	}
	for _, c := range wrong() {
		if May(c) || Size(c) != 0 {
			t.Errorf("%x: May %t, Size %d", c, May(c), Size(c))
		}
	}
}

// P4.2: the bytes of the edges, alone and one behind the other, and back.
func TestBytesAtEdges(t *testing.T) {
	var text []api.Char
	var b []byte
	for _, x := range edges() {
		wantBytes(t, "one", encoded(t, x.c), x.b...)
		wantText(t, "one", decoded(t, x.b...), x.c)
		text, b = append(text, x.c), append(b, x.b...)
		wantBytes(t, "many", encoded(t, text...), b...)
		wantText(t, "many", decoded(t, b...), text...)
	}
}

// P4.2: the chapter's examples, and none of anything.
func TestExamples(t *testing.T) {
	text := []api.Char{0x41, 0x7ff, 0x20ac, 0x10348}
	b := []byte{0x41, 0xdf, 0xbf, 0xe2, 0x82, 0xac, 0xf0, 0x90, 0x8d, 0x88}
	wantBytes(t, "the example", encoded(t, text...), b...)
	wantText(t, "the example", decoded(t, b...), text...)
	for _, b := range [][]byte{{0xc0, 0x80}, {0xed, 0xa0, 0x80}, {0xf4, 0x90, 0x80, 0x80}, {0xe2, 0x82}} {
		wantRefused(t, "an example", b)
	}
	if got := Whole([]byte{0x41, 0xe2, 0x82}); got != 1 {
		t.Errorf("Whole of the example: got %d", got)
	}
	for _, none := range [][]byte{nil, {}} {
		wantText(t, "no bytes", decoded(t, none...))
		if got := Whole(none); got != 0 {
			t.Errorf("Whole of no bytes: got %d", got)
		}
	}
	for _, none := range [][]api.Char{nil, {}} {
		wantBytes(t, "no text", encoded(t, none...))
	}
}

// P4.2: each code point that may be has the bytes of the chapter's words, and these are read as it.
func TestEachCodePoint(t *testing.T) {
	for c := api.Char(0); c < above; c++ {
		if !may(c) {
			continue
		}
		b, e := Encode([]api.Char{c})
		if e != api.OK || !bytes.Equal(b, plain(c)) {
			t.Fatalf("Encode(%x): got % x, %d, want % x", c, b, e, plain(c))
		}
		text, e := Decode(b)
		if e != api.OK || len(text) != 1 || text[0] != c {
			t.Fatalf("Decode(% x): got %x, %d, want %x", b, text, e, c)
		}
		if got := Whole(b); got != len(b) {
			t.Fatalf("Whole(% x): got %d", b, got)
		}
	}
}

// P4.2: one that may not be is refused wherever it stands, and nothing is told beside the error.
func TestEncodeRefuses(t *testing.T) {
	for _, c := range wrong() {
		for _, text := range [][]api.Char{{c}, {c, 0x41}, {0x41, c}, {0x41, c, 0x41}, {0x10348, 0x20ac, c}, {c, c}} {
			if b, e := Encode(text); e != api.ErrText || len(b) != 0 {
				t.Errorf("Encode(%x): got % x, %d", text, b, e)
			}
		}
	}
	for c := api.Char(0xd800); c <= 0xdfff; c++ {
		if b, e := Encode([]api.Char{c}); e != api.ErrText || len(b) != 0 {
			t.Fatalf("Encode(%x): got % x, %d", c, b, e)
		}
	}
}

// P4.2: what is no text's bytes is refused wherever it stands, and nothing is told beside the error.
func TestDecodeRefuses(t *testing.T) {
	for why, rows := range refused() {
		for _, b := range rows {
			wantRefused(t, why, b)
			for _, x := range edges() {
				wantRefused(t, why+", behind a text", append(bytes.Clone(x.b), b...))
				if x.c < 0x80 {
					wantRefused(t, why+", ahead of a text", append(bytes.Clone(b), x.b...))
				}
			}
		}
	}
}

// P4.2: a row of bytes is a text's just if the library takes it for one, and it is the same text.
func TestDecodeEveryRow(t *testing.T) {
	everyRow(func(b []byte) {
		text, e := Decode(b)
		if !utf8.Valid(b) {
			if e != api.ErrText || len(text) != 0 {
				t.Fatalf("Decode(% x): got %x, %d", b, text, e)
			}
			return
		}
		if e != api.OK || !bytes.Equal(plainText(text), b) {
			t.Fatalf("Decode(% x): got %x, %d", b, text, e)
		}
	})
}

// P4.3: of all the beginnings that are a text's bytes, the longest.
func TestWholeEveryRow(t *testing.T) {
	everyRow(func(b []byte) {
		want := len(b)
		for !utf8.Valid(b[:want]) {
			want--
		}
		if got := Whole(b); got != want {
			t.Fatalf("Whole(% x): got %d, want %d", b, got, want)
		}
	})
}

// P4.3: up to what is refused, whatever stands behind it; and texts that are cut.
func TestWholeAtFaults(t *testing.T) {
	for why, rows := range refused() {
		for _, b := range rows {
			own := len(b)
			for !utf8.Valid(b[:own]) {
				own--
			}
			for _, x := range edges() {
				if got := Whole(append(bytes.Clone(x.b), b...)); got != len(x.b)+own {
					t.Errorf("Whole, %s: % x behind % x: got %d, want %d", why, b, x.b, got, len(x.b)+own)
				}
				if x.c >= 0x80 {
					continue
				}
				if got := Whole(slices.Concat(b, x.b, x.b)); got != own {
					t.Errorf("Whole, %s: % x ahead of % x: got %d, want %d", why, b, x.b, got, own)
				}
			}
		}
	}
	for _, text := range texts() {
		b := plainText(text)
		ends := 0
		for n := range len(b) + 1 {
			if n == len(b) || utf8.RuneStart(b[n]) {
				ends = n
			}
			if got := Whole(b[:n]); got != ends {
				t.Fatalf("Whole(% x): got %d, want %d", b[:n], got, ends)
			}
		}
	}
}

// P4.4: Decode of what Encode tells is the text; Encode of what Decode tells is the bytes.
func TestBack(t *testing.T) {
	for _, text := range texts() {
		b := encoded(t, text...)
		wantBytes(t, "a text's bytes", b, plainText(text)...)
		wantText(t, "back", decoded(t, b...), text...)
	}
	everyRow(func(b []byte) {
		text, e := Decode(b)
		if e != api.OK {
			return
		}
		if back, e := Encode(text); e != api.OK || !bytes.Equal(back, b) {
			t.Fatalf("Encode(%x): got % x, %d, want % x", text, back, e, b)
		}
	})
}

// P4.5: bytes stand in the order of code points: neighbours all over, and texts.
func TestOrder(t *testing.T) {
	before := encoded(t, 0)
	for c := api.Char(1); c < above; c++ {
		if !may(c) {
			continue
		}
		b, _ := Encode([]api.Char{c})
		if bytes.Compare(before, b) != -1 {
			t.Fatalf("% x is not ahead of %x's % x", before, c, b)
		}
		before = b
	}
	all := texts()
	rows := make([][]byte, len(all))
	for i, text := range all {
		rows[i] = encoded(t, text...)
	}
	for i, a := range all {
		for j, b := range all {
			want := slices.CompareFunc(a, b, func(x, y api.Char) int { return cmp.Compare(x, y) })
			if got := bytes.Compare(rows[i], rows[j]); got != want {
				t.Fatalf("%x and %x: bytes compare as %d, texts as %d", a, b, got, want)
			}
		}
	}
}

// P4.6: a text's bytes with another's behind are both texts', one behind the other.
func TestBehindEachOther(t *testing.T) {
	all := texts()
	for i, a := range all {
		for _, b := range [][]api.Char{a, all[(5*i+3)%len(all)], all[(11*i+7)%len(all)], all[len(all)-1]} {
			whole := slices.Concat(a, b)
			parts := slices.Concat(encoded(t, a...), encoded(t, b...))
			wantBytes(t, "both", encoded(t, whole...), parts...)
			wantText(t, "both", decoded(t, parts...), whole...)
			if got := Whole(parts); got != len(parts) {
				t.Fatalf("Whole(% x): got %d", parts, got)
			}
		}
	}
}

// P4.6: no part of one code point's bytes is another one's, and none is a text's.
func TestNoPart(t *testing.T) {
	for c := api.Char(0x80); c < above; c++ {
		if !may(c) {
			continue
		}
		b, _ := Encode([]api.Char{c})
		for from := range b {
			for to := from + 1; to <= len(b); to++ {
				if to-from == len(b) {
					continue
				}
				if text, e := Decode(b[from:to]); e != api.ErrText || len(text) != 0 || Whole(b[from:to]) != 0 {
					t.Fatalf("a part of %x, % x: got %x, %d, Whole %d", c, b[from:to], text, e, Whole(b[from:to]))
				}
			}
		}
	}
}

// P4.2, P4.3: long texts, also with a fault at the very end.
func TestLong(t *testing.T) {
	var text []api.Char
	for _, x := range edges() {
		text = append(text, slices.Repeat([]api.Char{x.c}, 5000)...)
	}
	b := encoded(t, text...)
	wantBytes(t, "a long text", b, plainText(text)...)
	wantText(t, "a long text", decoded(t, b...), text...)
	if _, e := Encode(append(text, 0xd800)); e != api.ErrText {
		t.Errorf("Encode with a fault at the end: got %d", e)
	}
	cut := append(bytes.Clone(b), 0xf0, 0x90, 0x8d)
	wantRefused(t, "cut at the end", cut)
	if got := Whole(cut); got != len(b) {
		t.Errorf("Whole of one cut at the end: got %d, want %d", got, len(b))
	}
}

// R3: what is given stays, also if it is refused, and so does the room behind it.
func TestGivenStays(t *testing.T) {
	text := []api.Char{0x41, 0x20ac, 0x10348, 0x42, 0xd800}
	b := []byte{0x41, 0xe2, 0x82, 0xac, 0x42, 0xe2, 0x82}
	keptText, kept := slices.Clone(text), bytes.Clone(b)
	for n := range len(text) + 1 {
		Encode(text[:n])
		wantText(t, "what was given", text, keptText...)
	}
	for n := range len(b) + 1 {
		Decode(b[:n])
		Whole(b[:n])
		wantBytes(t, "what was given", b, kept...)
	}
}

// P4.2, R3: what is told is new memory, and so is the room behind it.
func TestNewMemory(t *testing.T) {
	text := []api.Char{0x41, 0x20ac}
	first, second := encoded(t, text...), encoded(t, text...)
	first[0] = 9
	_ = append(first[:1], 9, 9, 9)
	wantBytes(t, "another answer", second, 0x41, 0xe2, 0x82, 0xac)
	text[0] = 0x42
	wantBytes(t, "another answer", second, 0x41, 0xe2, 0x82, 0xac)

	b := []byte{0x41, 0xe2, 0x82, 0xac}
	one, other := decoded(t, b...), decoded(t, b...)
	one[0] = 9
	_ = append(one[:1], 9, 9)
	wantText(t, "another answer", other, 0x41, 0x20ac)
	b[0] = 0x42
	wantText(t, "another answer", other, 0x41, 0x20ac)
	wantBytes(t, "what was given", b, 0x42, 0xe2, 0x82, 0xac)
}
