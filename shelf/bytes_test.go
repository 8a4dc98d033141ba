package shelf

import (
	"bytes"
	"math"
	"slices"
	"strings"
	"testing"

	"copybook/api"
	"copybook/doc"
)

func wantParse(t *testing.T, b []byte, want api.Errno) {
	t.Helper()
	s, e := Parse(b)
	if e != want || (s != nil) != (want == api.OK) {
		t.Errorf("Parse(%x): got %v, error %d, want error %d", b[:min(len(b), 200)], s, e, want)
		return
	}
	if s != nil && !bytes.Equal(s.Bytes(), b) {
		t.Errorf("Parse(%x): its bytes are %x", b, s.Bytes())
	}
}

func wantOf(t *testing.T, names []string, docs [][]byte, want api.Errno) {
	t.Helper()
	s, e := Of(names, docs)
	if e != want || (s != nil) != (want == api.OK) {
		t.Errorf("Of(%q, %x): got %v, error %d, want error %d", names, docs, s, e, want)
		return
	}
	if s != nil && !bytes.Equal(s.Bytes(), record(names, docs)) {
		t.Errorf("Of(%q, %x): its bytes are %x", names, docs, s.Bytes())
	}
}

// lived is a shelf of so many documents, of which each has another past.
func lived(t *testing.T, n int) *both {
	t.Helper()
	b := with(t, many(n)...)
	for i := range n {
		for req := range uint64(i % 5) {
			b.typed(uint32(i+1), uint32(1+req%2), 1+req, 3*req, 'a'+api.Char(i))
		}
	}
	return b
}

// blank are so many documents' bytes, each of a new one.
func blank(n int) [][]byte {
	var out [][]byte
	for range n {
		out = append(out, doc.New().Bytes())
	}
	return out
}

// P14.5: Parse of Bytes is the shelf, and so is Of of its names and its documents' bytes: all is the same, and goes on so.
func TestBack(t *testing.T) {
	for n := range api.MaxDocs + 1 {
		b := lived(t, n)
		for _, s := range ways(t, b.shelf) {
			again := &both{t, s, b.plain.copy()}
			again.want()
			for i := range n {
				again.create(b.plain[i].name, api.ErrThere)
				again.typed(uint32(i+1), 2, 9, 40, 'w')
			}
			again.create("next", anyError(n))
			again.want()
			b.want()
			for _, s := range ways(t, again.shelf) {
				wantAs(t, s, again.plain)
			}
		}
	}
	for _, name := range good() {
		b := with(t, name)
		for _, s := range ways(t, b.shelf) {
			wantAs(t, s, b.plain)
		}
	}
}

// P14.5: of no names and no documents, however none is given, the shelf has none.
func TestBackOfNone(t *testing.T) {
	for _, names := range [][]string{nil, {}} {
		for _, docs := range [][][]byte{nil, {}} {
			wantOf(t, names, docs, api.OK)
		}
	}
	wantParse(t, []byte{0}, api.OK)
	wantParse(t, nil, api.ErrShort)
	wantParse(t, []byte{}, api.ErrShort)
}

// P14.3: bytes that end too early, at each place, and bytes behind.
func TestParseCut(t *testing.T) {
	for _, n := range []int{0, 1, 2, 3, 7, 32} {
		b := lived(t, n).shelf.Bytes()
		for size := range b {
			wantParse(t, b[:size], api.ErrShort)
		}
		wantParse(t, b, api.OK)
		for _, behind := range [][]byte{{0}, {1}, {0xff}, {0x80}, make([]byte, 100), b} {
			wantParse(t, slices.Concat(b, behind), api.ErrLong)
		}
	}
}

// P14.3: as many documents as may be, and more; that is told ahead of all that would be behind.
func TestParseMostDocs(t *testing.T) {
	for n := range 40 {
		want := api.OK
		if n > api.MaxDocs {
			want = api.ErrLong
		}
		wantParse(t, record(many(n), blank(n)), want)
	}
	for _, n := range []uint64{33, 34, 64, 127, 128, 255, 256, 1 << 31, 1 << 32, 1<<32 + 1, 1 << 63, math.MaxUint64} {
		wantParse(t, number(n), api.ErrLong)
		wantParse(t, slices.Concat(number(n), record(many(2), blank(2))[1:]), api.ErrLong)
	}
	wantParse(t, number(32), api.ErrShort)
}

// P14.3: names of each size around the limits, of a document ahead and of a later one.
func TestParseNameSizes(t *testing.T) {
	for size := range 130 {
		want := api.OK
		switch {
		case size == 0:
			want = api.ErrForm
		case size > 64:
			want = api.ErrLong
		}
		name := strings.Repeat("n", size)
		wantParse(t, record([]string{name}, blank(1)), want)
		wantParse(t, record([]string{"a", name}, blank(2)), want)
		wantParse(t, record([]string{name, "a", "b"}, blank(3)), want)
	}
	for _, n := range []uint64{65, 66, 1 << 16, 1 << 32, 1<<32 + 1, 1 << 63, math.MaxUint64} {
		wantParse(t, slices.Concat([]byte{1}, number(n)), api.ErrLong)
		wantParse(t, slices.Concat([]byte{1}, number(n), []byte("a"), counted(blank(1)[0])), api.ErrLong)
	}
	wantParse(t, []byte{1, 64}, api.ErrShort)
}

// P14.3: documents of as many bytes as may be, and of one more: those that doc.Parse would refuse by another error.
func TestParseDocSizes(t *testing.T) {
	if Most != 4194304 {
		t.Errorf("Most: got %d, want 2^22", Most)
	}
	// From revision 0 on, of more code points than may be: ErrForm.
	most := make([]byte, 4194304)
	copy(most, slices.Concat([]byte{0, 0}, number(4097)))
	long := append(slices.Clone(most), 0)
	wantParse(t, record([]string{"a"}, [][]byte{most}), api.ErrForm)
	wantParse(t, record([]string{"a"}, [][]byte{long}), api.ErrLong)
	wantParse(t, record([]string{"a", "b"}, [][]byte{blank(1)[0], most}), api.ErrForm)
	wantParse(t, record([]string{"a", "b"}, [][]byte{blank(1)[0], long}), api.ErrLong)
	// Of does not ask how long they are.
	wantOf(t, []string{"a"}, [][]byte{most}, api.ErrForm)
	wantOf(t, []string{"a"}, [][]byte{long}, api.ErrForm)
	for _, n := range []uint64{1<<22 + 1, 1<<22 + 2, 1 << 23, 1 << 32, 1 << 63, math.MaxUint64} {
		wantParse(t, slices.Concat([]byte{1, 1, 'a'}, number(n)), api.ErrLong)
	}
	wantParse(t, slices.Concat([]byte{1, 1, 'a'}, number(1<<22)), api.ErrShort)
}

// P14.3: names that are no text, or that stand twice, at each place.
func TestParseNames(t *testing.T) {
	for _, name := range wrong() {
		want := api.ErrForm
		if len(name) > 64 {
			want = api.ErrLong
		}
		for at := range 4 {
			wantParse(t, record(slices.Insert([]string{"a", "b", "c"}, at, name), blank(4)), want)
		}
	}
	for n := 2; n <= api.MaxDocs; n++ {
		for first := range n {
			for second := range first {
				names := many(n)
				names[first] = names[second]
				wantParse(t, record(names, blank(n)), api.ErrForm)
				wantOf(t, names, blank(n), api.ErrArg)
			}
		}
	}
	wantParse(t, record([]string{"", ""}, blank(2)), api.ErrForm)
}

// badDocs are bytes that doc.Parse refuses, one for each of its errors.
func badDocs(t *testing.T) map[api.Errno][]byte {
	good := lived(t, 4).plain[3].doc.Bytes()
	return map[api.Errno][]byte{
		api.ErrShort: good[:len(good)-1],
		api.ErrLong:  append(slices.Clone(good), 0),
		api.ErrForm:  append(slices.Clone(good[:len(good)-1]), 100), // a mark beyond the text
	}
}

// P14.3: documents that may not be, at each place, alone and with a later one, by doc.Parse's error: the first one's.
func TestParseDocs(t *testing.T) {
	for n := 1; n <= 4; n++ {
		for first := range n {
			for second := first; second < n; second++ {
				for e, bad := range badDocs(t) {
					for _, worse := range badDocs(t) {
						docs := lived(t, n).plain.docs()
						docs[second] = worse
						docs[first] = bad
						wantParse(t, record(many(n), docs), e)
						wantOf(t, many(n), docs, e)
					}
				}
			}
		}
	}
	for _, none := range [][]byte{nil, {}} {
		wantParse(t, record([]string{"a"}, [][]byte{none}), api.ErrShort)
		wantOf(t, []string{"a"}, [][]byte{none}, api.ErrShort)
	}
}

// P14.3: a reader's error is told ahead of a name's, and that ahead of a document's, wherever each stands.
func TestParseErrorsOrder(t *testing.T) {
	for _, names := range [][]string{
		{"", "b", "c"}, {"a", "", "c"}, {"a", "b", ""}, {"\xff", "b", "c"}, {"a", "\xc3", "c"}, {"a", "b", "\xe2\x82"},
		{"a", "a", "c"}, {"a", "b", "a"}, {"a", "c", "c"}, {"a", "a", "a"},
	} {
		for _, bad := range badDocs(t) {
			for at := range names {
				docs := blank(3)
				docs[at] = bad
				b := record(names, docs)
				wantParse(t, b, api.ErrForm)
				wantOf(t, names, docs, api.ErrArg)
				for size := range b {
					wantParse(t, b[:size], api.ErrShort)
				}
				wantParse(t, append(slices.Clone(b), 0), api.ErrLong)
				long := append(slices.Clone(names), strings.Repeat("n", 65))
				wantParse(t, record(long, append(docs, bad)), api.ErrLong)
			}
		}
	}
}

// P14.3: numbers in more bytes than they need, or in too many, at each place where the shelf's own numbers stand.
func TestParseNumbers(t *testing.T) {
	name, one := counted([]byte("a")), counted(blank(1)[0])
	for _, x := range []struct{ ahead, behind []byte }{
		{nil, slices.Concat(name, one)},
		{[]byte{1}, slices.Concat(name[1:], one)},
		{slices.Concat([]byte{1}, name), one[1:]},
	} {
		for _, size := range []byte{1, 6} {
			wantParse(t, slices.Concat(x.ahead, []byte{0x80 | size, 0}, x.behind), api.ErrForm)
			wantParse(t, slices.Concat(x.ahead, []byte{0x80 | size, 0x80, 0}, x.behind), api.ErrForm)
		}
		wantParse(t, slices.Concat(x.ahead, bytes.Repeat([]byte{0xff}, 10), x.behind), api.ErrForm)
		wantParse(t, slices.Concat(x.ahead, bytes.Repeat([]byte{0xff}, 9), []byte{1}, x.behind), api.ErrLong)
		wantParse(t, slices.Concat(x.ahead, bytes.Repeat([]byte{0xff}, 9)), api.ErrShort)
	}
	wantParse(t, slices.Concat([]byte{1}, name, one), api.OK)
}

// P14.3, P14.5: each byte changed to each other one, taken out, and doubled, held against the plain reading; what is read, written again, is the same bytes.
func TestParseChanged(t *testing.T) {
	seen := map[api.Errno]int{}
	want := func(b []byte) {
		e := parsed(b)
		seen[e]++
		wantParse(t, b, e)
	}
	for _, b := range [][]byte{lived(t, 1).plain.bytes(), lived(t, 3).plain.bytes(), with(t, "a", "b", "c").plain.bytes()} {
		for at := range b {
			for x := range 256 {
				changed := slices.Clone(b)
				changed[at] = byte(x)
				want(changed)
			}
			want(slices.Delete(slices.Clone(b), at, at+1))
			want(slices.Insert(slices.Clone(b), at, b[at]))
		}
	}
	for _, e := range []api.Errno{api.OK, api.ErrLong, api.ErrShort, api.ErrForm} {
		if seen[e] < 100 {
			t.Errorf("error %d: seen %d times", e, seen[e])
		}
	}
}

// P14.3: records of a few names and documents, good and bad, held against the plain reading.
func TestParseMixed(t *testing.T) {
	below := chance()
	bad := badDocs(t)
	names := []string{"a", "b", "c", "d", "e", "", "\xff", "\u00e9", strings.Repeat("n", 64), strings.Repeat("n", 65)}
	docs := append(lived(t, 5).plain.docs(), bad[api.ErrShort], bad[api.ErrLong], bad[api.ErrForm], nil)
	seen := map[api.Errno]int{}
	for range 20000 {
		var n []string
		var d [][]byte
		for range below(5) {
			n, d = append(n, names[below(5+below(6))]), append(d, docs[below(5+below(5))])
		}
		b := record(n, d)
		switch below(12) {
		case 0:
			b = b[:below(len(b))]
		case 1:
			b = append(b, 0)
		}
		e := parsed(b)
		seen[e]++
		wantParse(t, b, e)
	}
	for _, e := range []api.Errno{api.OK, api.ErrLong, api.ErrShort, api.ErrForm} {
		if seen[e] < 500 {
			t.Errorf("error %d: seen %d times", e, seen[e])
		}
	}
}

// P14.3: Of, where there are not as many names as documents, also where a document may not be.
func TestOfUnlike(t *testing.T) {
	for names := range 36 {
		for docs := range 36 {
			want, bad := api.OK, api.ErrShort
			if names != docs || names > api.MaxDocs {
				want, bad = api.ErrArg, api.ErrArg
			}
			wantOf(t, many(names), blank(docs), want)
			if docs > 0 {
				wantOf(t, many(names), append(blank(docs-1), nil), bad)
			}
		}
	}
}

// P14.3: Of, with names that may not be, at each place.
func TestOfNames(t *testing.T) {
	for _, name := range wrong() {
		for at := range 4 {
			wantOf(t, slices.Insert([]string{"a", "b", "c"}, at, name), blank(4), api.ErrArg)
		}
	}
	for _, name := range good()[1:] {
		for at := range 4 {
			wantOf(t, slices.Insert([]string{"a", "b", "c"}, at, name), blank(4), api.OK)
		}
	}
}

// P14.3: Of, with more names and documents than may be, whatever they are.
func TestOfMost(t *testing.T) {
	for _, n := range []int{33, 34, 64, 97} {
		wantOf(t, many(n), blank(n), api.ErrArg)
		wantOf(t, many(n), make([][]byte, n), api.ErrArg)
		wantOf(t, slices.Repeat([]string{"a"}, n), blank(n), api.ErrArg)
	}
	wantOf(t, many(32), blank(32), api.OK)
}
