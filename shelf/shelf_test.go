package shelf

import (
	"bytes"
	"encoding/hex"
	"slices"
	"strconv"
	"testing"

	"copybook/api"
	"copybook/doc"
)

// P14.2: the chapter's examples.
func TestExamples(t *testing.T) {
	b := begin(t)
	b.create("a", api.OK)
	b.create("b", api.OK)
	b.create("a", api.ErrThere)
	b.create("", api.ErrArg)
	wantFind(t, b.shelf, "a", 1)
	wantFind(t, b.shelf, "b", 2)
	if b.shelf.Get(3) != nil {
		t.Error("Get(3): got a document, want none")
	}
	b.want()
}

// P14.1: a new shelf; two of them have nothing in common.
func TestNew(t *testing.T) {
	s, other := New(), New()
	wantAs(t, s, nil)
	if got := s.Bytes(); !bytes.Equal(got, []byte{0}) {
		t.Errorf("Bytes: got %x, want 00", got)
	}
	b := &both{t, s, nil}
	b.create("a", api.OK)
	b.typed(1, 7, 1, 5, 'x')
	b.want()
	wantAs(t, other, nil)
	wantAs(t, New(), nil)
}

// P14.1 to P14.3: no shelf, and one that New did not make, whatever is asked; ErrNil is ahead of ErrArg.
func TestNone(t *testing.T) {
	var value Shelf
	over := with(t, "a", "b").shelf
	*over = Shelf{}
	for _, s := range []*Shelf{nil, {}, new(Shelf), &value, over} {
		for range 2 {
			for _, name := range slices.Concat(good(), wrong(), []string{"b"}) {
				if n, e := s.Create(name); n != 0 || e != api.ErrNil {
					t.Errorf("Create(%q): got %d, error %d, want 0, error %d", name, n, e, api.ErrNil)
				}
				wantFind(t, s, name, 0)
			}
			for _, n := range []uint32{0, 1, 2, 32, 33, 1<<32 - 1} {
				if s.Get(n) != nil {
					t.Errorf("Get(%d): got a document, want none", n)
				}
			}
			if len(s.List()) != 0 || len(s.Names()) != 0 || len(s.Bytes()) != 0 || s.Copy() != nil {
				t.Errorf("got %v, %q, %x, %v of none", s.List(), s.Names(), s.Bytes(), s.Copy())
			}
		}
	}
}

// P14.2: each name that may be, on a shelf of its own and among others; its document is a new one.
func TestCreate(t *testing.T) {
	b := begin(t)
	for _, name := range good() {
		one := with(t, name)
		one.want()
		if got := one.shelf.Get(1).Bytes(); !bytes.Equal(got, doc.New().Bytes()) {
			t.Errorf("Create(%q): got a document %x, want a new one", name, got)
		}
		if len(b.plain) == api.MaxDocs {
			b = begin(t)
		}
		b.create(name, api.OK)
		b.want()
	}
}

// P14.2: names that may not be, on a shelf without documents, with some, and with as many as may be: ErrArg is ahead of ErrQuota; nothing changes.
func TestCreateWrong(t *testing.T) {
	for _, b := range []*both{begin(t), with(t, "a", "n"), full(t)} {
		for _, name := range wrong() {
			b.create(name, api.ErrArg)
		}
		b.want()
		for range api.MaxDocs - len(b.plain) {
			b.create("more"+strconv.Itoa(len(b.plain)), api.OK)
		}
		b.want()
	}
}

// full is a shelf with as many documents as may be, in no order of their names.
func full(t *testing.T) *both {
	t.Helper()
	return with(t, many(api.MaxDocs)...)
}

// many are names that do not rise.
func many(n int) []string {
	var out []string
	for i := range n {
		out = append(out, strconv.Itoa(i*7919%97)+"doc")
	}
	return out
}

// P14.2: a name that a document has, on a shelf that is full too: ErrThere is ahead of ErrQuota; the document stays as it is.
func TestCreateThere(t *testing.T) {
	for n := 1; n <= api.MaxDocs; n++ {
		b := with(t, many(n)...)
		b.typed(uint32(n), 3, 1, 9, 'q')
		last := b.shelf.Get(uint32(n))
		for range 2 {
			for _, name := range many(n) {
				b.create(name, api.ErrThere)
			}
		}
		b.want()
		if b.shelf.Get(uint32(n)) != last {
			t.Errorf("Get(%d): got another document", n)
		}
	}
	all := good()[:api.MaxDocs]
	b := with(t, all...)
	for _, name := range all {
		b.create(name, api.ErrThere)
	}
	b.want()
}

// P14.2: the last document that may be, and one more, also on shelves that are made of bytes or copied.
func TestCreateQuota(t *testing.T) {
	for n := range api.MaxDocs + 1 {
		b := with(t, many(n)...)
		for _, s := range ways(t, b.shelf) {
			again := &both{t, s, b.plain.copy()}
			for range api.MaxDocs - n {
				again.create("more"+strconv.Itoa(len(again.plain)), api.OK)
			}
			again.want()
			for _, name := range []string{"z", "more", "x", "64"} {
				again.create(name, api.ErrQuota)
			}
			again.create(again.plain[31].name, api.ErrThere)
			again.create("", api.ErrArg)
			again.want()
		}
	}
}

// ways are shelves that must be as that one: a copy, what is parsed of its bytes, and of its names and its documents' bytes.
func ways(t *testing.T, s *Shelf) []*Shelf {
	t.Helper()
	p, e := Parse(s.Bytes())
	if e != api.OK {
		t.Fatalf("Parse: got error %d", e)
	}
	var docs [][]byte
	for i := range s.Names() {
		docs = append(docs, s.Get(uint32(i+1)).Bytes())
	}
	o, e := Of(s.Names(), docs)
	if e != api.OK {
		t.Fatalf("Of: got error %d", e)
	}
	return []*Shelf{s.Copy(), p, o}
}

// P14.2: Get tells the very document: each time the same one, and what is done to it, also behind, is told by List and Bytes.
func TestGet(t *testing.T) {
	for _, s := range append(ways(t, full(t).shelf), full(t).shelf) {
		b := &both{t, s, full(t).plain}
		var docs []*doc.Doc
		for n := uint32(1); n <= api.MaxDocs; n++ {
			docs = append(docs, s.Get(n))
		}
		for i, d := range docs {
			for range i % 4 {
				typing(5, d.Rev()+1, 10, 'y')(d)
				typing(5, d.Rev(), 10, 'y')(b.plain[i].doc)
			}
			b.want()
		}
		for i, d := range docs {
			if s.Get(uint32(i+1)) != d || slices.Index(docs, d) != i {
				t.Errorf("Get(%d): got another document", i+1)
			}
		}
	}
}

// P14.1: List tells a document's revision and how often it was touched, also where it told an error, and what is gone of its past.
func TestList(t *testing.T) {
	b := with(t, "one", "two", "three")
	b.on(2, func(d *doc.Doc) {
		d.Who(1, 1)
		d.Open(1, 0, 1<<40+1)
		d.Snap(0, 1)
	})
	b.on(3, func(d *doc.Doc) {
		for i := range uint64(5) {
			typing(9, i+1, 2, 'a')(d)
		}
		d.Snap(1, 3)
		d.Leave(9, 4)
		d.Undo(api.Id{Client: 9, Req: 7}, 5, 4)
	})
	b.want()
	want := []Item{{1, "one", 0, 0}, {2, "two", 0, 2}, {3, "three", 5, 13}}
	if got := b.shelf.List(); !slices.Equal(got, want) {
		t.Errorf("List: got %v, want %v", got, want)
	}
}

// P14.1: List and Names tell documents in the order in which they were created, whatever their names, and however often they are asked.
func TestOrder(t *testing.T) {
	orders([]string{"a", "b", "c", "d", "e"}, func(names []string) {
		b := with(t, names...)
		for range 3 {
			b.want()
		}
	})
	for _, s := range append(ways(t, full(t).shelf), full(t).shelf) {
		for range 20 {
			wantAs(t, s, full(t).plain)
		}
	}
}

// orders calls f with each order of a list.
func orders(list []string, f func([]string)) {
	var from func(n int)
	from = func(n int) {
		if n == len(list) {
			f(slices.Clone(list))
		}
		for i := n; i < len(list); i++ {
			list[n], list[i] = list[i], list[n]
			from(n + 1)
			list[n], list[i] = list[i], list[n]
		}
	}
	from(0)
}

// P14.1: a copy has the same, and lives apart, with all its documents: what is done to one is not seen by the other, whichever it is.
func TestCopy(t *testing.T) {
	for n := range api.MaxDocs + 1 {
		b := with(t, many(n)...)
		for i := range n {
			b.typed(uint32(i+1), uint32(i%3), 1, 7, 'a'+api.Char(i))
		}
		for _, turned := range []bool{false, true} {
			one, other := b.copy(), b.copy()
			other.shelf = one.shelf.Copy()
			if turned {
				one, other = other, one
			}
			for i := range n {
				if one.shelf.Get(uint32(i+1)) == other.shelf.Get(uint32(i+1)) {
					t.Errorf("Copy: document %d is one and the same", i+1)
				}
				one.typed(uint32(i+1), 3, 1, 8, 'z')
			}
			if n < api.MaxDocs {
				one.create("new", api.OK)
			}
			one.want()
			other.want()
			if n < api.MaxDocs {
				other.create("other", api.OK)
				other.create("one", anyError(n+1))
				other.create("new", anyError(n+2))
			}
			one.want()
			other.want()
		}
		b.want()
	}
}

// anyError is what Create tells of a name that is not there on a shelf of so many documents.
func anyError(n int) api.Errno {
	if n >= api.MaxDocs {
		return api.ErrQuota
	}
	return api.OK
}

// P14.1 to P14.3 (R3): what is told is new memory: written over, the shelf is as it was, and so is what it tells again.
func TestToldIsNew(t *testing.T) {
	b := full(t)
	b.typed(3, 1, 1, 1, 'x')
	for range 2 {
		list, names, told := b.shelf.List(), b.shelf.Names(), b.shelf.Bytes()
		for i := range list[:cap(list)] {
			list[:cap(list)][i] = Item{9, "over", 9, 9}
		}
		for i := range names[:cap(names)] {
			names[:cap(names)][i] = "over"
		}
		for i := range told[:cap(told)] {
			told[:cap(told)][i] = 0xff
		}
		b.want()
	}
}

// P14.3 (R3): what is given stays as it is, and is not kept: written over, the shelf is as it was.
func TestGivenStays(t *testing.T) {
	want := full(t)
	for i := range want.plain {
		want.typed(uint32(i+1), 4, 1, 2, 'g')
	}
	given, names, docs := want.plain.bytes(), want.plain.names(), want.plain.docs()
	p, e := Parse(given)
	if e != api.OK || !bytes.Equal(given, want.plain.bytes()) {
		t.Fatalf("Parse: got error %d, or what was given is another", e)
	}
	o, e := Of(names, docs)
	if e != api.OK || !slices.Equal(names, want.plain.names()) || !slices.EqualFunc(docs, want.plain.docs(), bytes.Equal) {
		t.Fatalf("Of: got error %d, or what was given is another", e)
	}
	clear(given)
	clear(names)
	for i := range docs {
		clear(docs[i])
		docs[i] = nil
	}
	wantAs(t, p, want.plain)
	wantAs(t, o, want.plain)
	// Nor is anything written into what is given beyond its end.
	room := append(want.plain.bytes(), make([]byte, 100)...)
	end := len(room) - 100
	p, _ = Parse(room[:end])
	p.Create("over")
	if !bytes.Equal(room, append(want.plain.bytes(), make([]byte, 100)...)) {
		t.Error("Parse: what is behind the bytes given is another")
	}
}

// P14.3: Bytes to the last byte.
func TestBytes(t *testing.T) {
	b := with(t, "a", "\u20ac")
	b.on(2, typing(5, 1, 6, 'h'))
	want := "02" +
		"01" + "61" + "06" + "000000000000" +
		"03" + "e282ac" + "13" +
		"02" + "00" + "00" + // touched twice; from revision 0 on, of no code points
		"01" + "05" + "01" + "00" + "01" + "01" + "00" + "68" + "05" + "01" + // one operation, of client 5, its request 1, not undone: one unit
		"01" + "68" + "01" + "05" + "46" + "01" // one code point; client 5 until 70, at 1
	if got := hex.EncodeToString(b.shelf.Bytes()); got != want {
		t.Errorf("Bytes: got %s, want %s", got, want)
	}
	b.want()
}
