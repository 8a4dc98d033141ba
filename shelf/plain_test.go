package shelf

import (
	"bytes"
	"encoding/binary"
	"math"
	"slices"
	"strings"
	"testing"
	"unicode/utf8"

	"copybook/api"
	"copybook/doc"
)

// plain is a shelf told plainly, to hold the other one against: a row of documents, which are its own.
type plain []named

type named struct {
	name string
	doc  *doc.Doc
}

// nameMay tells by Go's own reading of UTF-8 whether a name may be.
func nameMay(name string) bool { return 1 <= len(name) && len(name) <= 64 && utf8.ValidString(name) }

func (p plain) find(name string) (uint32, bool) {
	i := slices.IndexFunc(p, func(x named) bool { return x.name == name })
	return uint32(i + 1), i >= 0
}

// refuses is the error by which Create refuses a name, if it does.
func (p plain) refuses(name string) api.Errno {
	_, there := p.find(name)
	switch {
	case !nameMay(name):
		return api.ErrArg
	case there:
		return api.ErrThere
	case len(p) == 32:
		return api.ErrQuota
	}
	return api.OK
}

func (p *plain) create(name string) (uint32, api.Errno) {
	if e := p.refuses(name); e != api.OK {
		return 0, e
	}
	*p = append(*p, named{name, doc.New()})
	return uint32(len(*p)), api.OK
}

func (p plain) copy() plain {
	var out plain
	for _, x := range p {
		out = append(out, named{x.name, x.doc.Copy()})
	}
	return out
}

func (p plain) list() []Item {
	var out []Item
	for i, x := range p {
		out = append(out, Item{uint32(i + 1), x.name, x.doc.Rev(), x.doc.Turn()})
	}
	return out
}

func (p plain) names() []string {
	var out []string
	for _, x := range p {
		out = append(out, x.name)
	}
	return out
}

func (p plain) docs() [][]byte {
	var out [][]byte
	for _, x := range p {
		out = append(out, x.doc.Bytes())
	}
	return out
}

func (p plain) bytes() []byte {
	return record(p.names(), p.docs())
}

// record is the bytes of a shelf of these names and documents, whatever these are.
func record(names []string, docs [][]byte) []byte {
	out := number(uint64(len(names)))
	for i, name := range names {
		out = slices.Concat(out, counted([]byte(name)), counted(docs[i]))
	}
	return out
}

func number(n uint64) []byte { return binary.AppendUvarint(nil, n) }

func counted(b []byte) []byte { return append(number(uint64(len(b))), b...) }

// parsed reads bytes as a shelf, plainly: first all of the record, then the names, then the documents.
func parsed(b []byte) api.Errno {
	var names []string
	var docs [][]byte
	count, b, e := numberOf(b, 32)
	for n := uint64(0); n < count && e == api.OK; n++ {
		var name, doc []byte
		if name, b, e = countedOf(b, 64); e == api.OK {
			doc, b, e = countedOf(b, 4194304)
		}
		names, docs = append(names, string(name)), append(docs, doc)
	}
	switch {
	case e != api.OK:
		return e
	case len(b) > 0:
		return api.ErrLong
	case !namesMay(names):
		return api.ErrForm
	}
	return docsError(docs)
}

func namesMay(names []string) bool {
	for i, name := range names {
		if !nameMay(name) || slices.Contains(names[:i], name) {
			return false
		}
	}
	return true
}

func docsError(docs [][]byte) api.Errno {
	for _, b := range docs {
		if _, e := doc.Parse(b); e != api.OK {
			return e
		}
	}
	return api.OK
}

// numberOf reads a number in as few bytes as need be, up to most, and tells what is behind it.
func numberOf(b []byte, most uint64) (uint64, []byte, api.Errno) {
	n, size := binary.Uvarint(b)
	switch {
	case size == 0:
		return 0, nil, api.ErrShort
	case size < 0 || len(number(n)) != size:
		return 0, nil, api.ErrForm
	case n > most:
		return 0, nil, api.ErrLong
	}
	return n, b[size:], api.OK
}

func countedOf(b []byte, most uint64) ([]byte, []byte, api.Errno) {
	n, b, e := numberOf(b, most)
	switch {
	case e != api.OK:
		return nil, nil, e
	case uint64(len(b)) < n:
		return nil, nil, api.ErrShort
	}
	return b[:n], b[n:], api.OK
}

// both are a shelf, and the plain one beside it, to which the same is done.
type both struct {
	t     *testing.T
	shelf *Shelf
	plain plain
}

func begin(t *testing.T) *both { return &both{t, New(), nil} }

// with is a shelf of New with documents of these names.
func with(t *testing.T, names ...string) *both {
	t.Helper()
	b := begin(t)
	for _, name := range names {
		b.create(name, api.OK)
	}
	return b
}

func (b *both) copy() *both { return &both{b.t, b.shelf.Copy(), b.plain.copy()} }

// create creates a document on both: the same is told, and it is that error.
func (b *both) create(name string, want api.Errno) {
	b.t.Helper()
	n, e := b.plain.create(name)
	if e != want {
		b.t.Errorf("the plain Create(%q): got error %d, want %d", name, e, want)
	}
	if gotN, got := b.shelf.Create(name); gotN != n || got != e {
		b.t.Errorf("Create(%q): got %d, error %d, want %d, error %d", name, gotN, got, n, e)
	}
}

// on does something to a document of both.
func (b *both) on(n uint32, do func(d *doc.Doc)) {
	b.t.Helper()
	d := b.shelf.Get(n)
	if d == nil {
		b.t.Fatalf("Get(%d): got none", n)
	}
	do(d)
	do(b.plain[n-1].doc)
}

// typed types one code point into a document, as a client that is at it from then on.
func (b *both) typed(n, client uint32, req, now uint64, c api.Char) {
	b.t.Helper()
	b.on(n, typing(client, req, now, c))
}

func typing(client uint32, req, now uint64, c api.Char) func(d *doc.Doc) {
	return func(d *doc.Doc) {
		id := api.Id{Client: client, Req: req}
		d.Open(client, 0, now)
		d.Edit(id, d.Rev(), []api.Unit{{Kind: api.Ins, Char: c, Id: id}}, now)
	}
}

// want asks all that a shelf tells.
func (b *both) want() {
	b.t.Helper()
	wantAs(b.t, b.shelf, b.plain)
}

func wantAs(t *testing.T, s *Shelf, p plain) {
	t.Helper()
	if got := s.List(); !slices.Equal(got, p.list()) {
		t.Errorf("List: got %v, want %v", got, p.list())
	}
	if got := s.Names(); !slices.Equal(got, p.names()) {
		t.Errorf("Names: got %q, want %q", got, p.names())
	}
	if got := s.Bytes(); !bytes.Equal(got, p.bytes()) {
		t.Errorf("Bytes: got %x, want %x", got, p.bytes())
	}
	for i, x := range p {
		n := uint32(i + 1)
		wantFind(t, s, x.name, n)
		if d := s.Get(n); d == nil || !bytes.Equal(d.Bytes(), x.doc.Bytes()) {
			t.Errorf("Get(%d): got %v, want %x", n, d, x.doc.Bytes())
		}
	}
	for _, n := range []uint32{0, uint32(len(p)) + 1, uint32(len(p)) + 2, 32, 33, 34, 255, 256, 257, 1<<16 + 1, 1<<31 + 1, math.MaxUint32} {
		if d := s.Get(n); d != nil && (n == 0 || int64(n) > int64(len(p))) {
			t.Errorf("Get(%d): got a document, want none of %d", n, len(p))
		}
	}
	for _, name := range slices.Concat(absent(), wrong()) {
		if _, there := p.find(name); !there {
			wantFind(t, s, name, 0)
		}
	}
}

// wantFind asks for the number of a name; of 0 there is none.
func wantFind(t *testing.T, s *Shelf, name string, want uint32) {
	t.Helper()
	if got, there := s.Find(name); got != want || there != (want > 0) {
		t.Errorf("Find(%q): got %d, %v, want %d, %v", name, got, there, want, want > 0)
	}
}

func absent() []string {
	return []string{"nobody", "NOBODY", "1", "a ", strings.Repeat("n", 63), strings.Repeat("n", 64)}
}

// wrong are names that may not be: of no bytes, of too many, and such as are no text.
func wrong() []string {
	out := []string{"", strings.Repeat("n", 65), strings.Repeat("n", 66), strings.Repeat("n", 128), strings.Repeat("n", 320), strings.Repeat("\u00e9", 33), strings.Repeat("\u20ac", 22), strings.Repeat("\U00010348", 17)}
	for _, x := range noText() {
		out = append(out, x, "a"+x, x+"a", "a"+x+"a", strings.Repeat("n", 64-len(x))+x, x+strings.Repeat("n", 64-len(x)), "\u00e9"+x, x+"\u20ac")
	}
	return out
}

// noText are bytes that are no code point's, nor would be together with those of others beside them.
func noText() []string {
	return []string{"\x80", "\xbf", "\xc0", "\xc1", "\xc3", "\xe2", "\xf0", "\xf4", "\xf5", "\xf8", "\xfe", "\xff", "\xc0\x80", "\xc1\xbf", "\xe0\x80\x80", "\xe0\x9f\xbf", "\xe2\x82", "\xed\xa0\x80", "\xed\xbf\xbf", "\xf0\x80\x80\x80", "\xf0\x8f\xbf\xbf", "\xf0\x90\x8d", "\xf4\x90\x80\x80", "\xf8\x88\x80\x80\x80", "\xc3\xc3", "\xe2\x82\xac\x80"}
}

// good are names that may be, from one byte to the most; no two are the same, though some look so.
func good() []string {
	out := []string{"a", "A", "a ", " a", "a\x00", "\x00", "\x00\x00", "\x7f", " ", "\n", "/", "..", "0", "\u00e9", "e\u0301", "\u0301", "\u0080", "\u07ff", "\u0800", "\ud7ff", "\ue000", "\ufeff", "\ufffd", "\uffff", "\U00010000", "\U0010ffff", "r\u00e9sum\u00e9", "resume"}
	for _, size := range []int{2, 31, 32, 33, 63, 64} {
		out = append(out, strings.Repeat("x", size))
	}
	return append(out, strings.Repeat("\u00e9", 32), strings.Repeat("\u20ac", 21), strings.Repeat("\u20ac", 21)+"x", strings.Repeat("\U00010348", 16), strings.Repeat("x", 62)+"\u00e9", strings.Repeat("x", 63)+"y")
}
