package shelf

import (
	"bytes"
	"slices"
	"testing"

	"copybook/api"
	"copybook/doc"
)

// chance tells numbers that look like chance, the same ones each time.
func chance() func(below int) int {
	state := uint64(1)
	return func(below int) int {
		state = state*6364136223846793005 + 1442695040888963407
		return int(state >> 33 % uint64(below))
	}
}

// step is something to do to a shelf, and to the plain one beside it.
type step func(b *both)

func creating(name string) step {
	return func(b *both) { b.create(name, b.plain.refuses(name)) }
}

// doing does something to a document of that number, if there is one.
func doing(n uint32, do func(d *doc.Doc)) step {
	return func(b *both) {
		if int(n) <= len(b.plain) {
			b.on(n, do)
		}
	}
}

// taking goes on with the shelf that is made of this one in that way: copied, parsed, or of its names and documents.
func taking(way int) step {
	return func(b *both) { b.shelf = ways(b.t, b.shelf)[way] }
}

// few are steps of which all short rows are gone through.
func few() []step {
	return []step{
		creating("b"), creating("a"), creating(""), creating("\xff"),
		doing(1, typing(1, 1, 5, 'x')), doing(2, typing(2, 1, 5, 'y')),
		taking(0), taking(1), taking(2),
	}
}

// P14.1 to P14.5: all rows of up to four steps, held against the plain shelf behind each.
func TestShortRows(t *testing.T) {
	var from func(b *both, left int)
	from = func(b *both, left int) {
		b.want()
		if left == 0 {
			return
		}
		for _, s := range few() {
			next := b.copy()
			s(next)
			from(next, left-1)
		}
	}
	from(begin(t), 4)
}

// someStep is any step, mostly one that changes something.
func someStep(below func(int) int, names []string) step {
	n := 1 + uint32(below(api.MaxDocs))
	client, req, now := uint32(below(4)), uint64(below(1000)), uint64(below(200))
	switch k := below(20); {
	case k < 7:
		return creating(names[below(len(names))])
	case k < 14:
		return doing(n, typing(client, req, now, 'a'+api.Char(below(26))))
	case k < 16:
		return doing(n, func(d *doc.Doc) { d.Undo(api.Id{Client: client, Req: req}, d.Rev(), now) })
	case k < 17:
		return doing(n, func(d *doc.Doc) { d.Snap(int(client), now) })
	default:
		return taking(k - 17)
	}
}

// P14.1 to P14.5: long rows of steps, held against the plain shelf; each goes on till there is no room any more.
func TestLongRows(t *testing.T) {
	below := chance()
	names := slices.Concat(good(), many(20), wrong()[:20])
	for range 12 {
		b := begin(t)
		for range 300 {
			someStep(below, names)(b)
			b.want()
		}
		if len(b.plain) != api.MaxDocs {
			t.Errorf("got %d documents, want %d", len(b.plain), api.MaxDocs)
		}
	}
}

// P14.4: behind whatever is done, each document keeps its number and its name, and is the very one; numbers have no gaps.
func TestKeep(t *testing.T) {
	below := chance()
	names := slices.Concat(good(), many(20), wrong()[:20])
	s, docs := New(), []*doc.Doc(nil)
	var kept []string
	for range 3000 {
		name := names[below(len(names))]
		if n, e := s.Create(name); e == api.OK {
			kept, docs = append(kept, name), append(docs, s.Get(n))
			if int(n) != len(kept) {
				t.Errorf("Create(%q): got %d, want %d", name, n, len(kept))
			}
		}
		if len(docs) > 0 {
			typing(uint32(below(3)), 1, uint64(below(100)), 'k')(docs[below(len(docs))])
		}
		if !slices.Equal(s.Names(), kept) {
			t.Fatalf("Names: got %q, want %q", s.Names(), kept)
		}
		for i, d := range docs {
			if s.Get(uint32(i+1)) != d {
				t.Fatalf("Get(%d): got another document", i+1)
			}
			wantFind(t, s, kept[i], uint32(i+1))
		}
	}
}

// P14.5 (R7): two shelves to which the same was done are the same, to the last byte, also where one is made anew of bytes, or copied, at any place between.
func TestAlike(t *testing.T) {
	names := slices.Concat(good(), many(20), wrong()[:20])
	one, other := chance(), chance()
	a, b := begin(t), begin(t)
	way := chance()
	for range 1000 {
		someStep(one, names)(a)
		someStep(other, names)(b)
		if way(3) == 0 {
			b.shelf = ways(t, b.shelf)[way(3)]
		}
		if !bytes.Equal(a.shelf.Bytes(), b.shelf.Bytes()) || !slices.Equal(a.shelf.List(), b.shelf.List()) {
			t.Fatalf("two shelves are not the same: %v, %v", a.shelf.List(), b.shelf.List())
		}
	}
}
