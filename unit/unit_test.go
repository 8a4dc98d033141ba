package unit

import (
	"math"
	"slices"
	"strings"
	"testing"

	"copybook/api"
	"copybook/utf"
)

const whole = "abcdef" // the texts are its beginnings: no code point stands in one twice

func chars(s string) []api.Char {
	var out []api.Char
	for _, r := range s {
		out = append(out, api.Char(r))
	}
	return out
}

func idOf(client uint32, req uint64) api.Id { return api.Id{Client: client, Req: req} }

func unitOf(kind, pos int, c api.Char, id api.Id) api.Unit {
	return api.Unit{Kind: kind, Pos: pos, Char: c, Id: id}
}

func nop(id api.Id) api.Unit { return unitOf(api.Nop, 0, 0, id) }

func ins(pos int, c api.Char, id api.Id) api.Unit { return unitOf(api.Ins, pos, c, id) }

func del(pos int, c api.Char, id api.Id) api.Unit { return unitOf(api.Del, pos, c, id) }

// ids stand in their order: each is ahead of those behind it.
func ids() []api.Id {
	var out []api.Id
	for _, client := range []uint32{0, 1, 2, 255, 256, math.MaxInt32, math.MaxInt32 + 1, math.MaxUint32 - 1, math.MaxUint32} {
		for _, req := range []uint64{0, 1, 2, math.MaxUint32, math.MaxUint32 + 1, math.MaxInt64, math.MaxInt64 + 1, math.MaxUint64 - 1, math.MaxUint64} {
			out = append(out, idOf(client, req))
		}
	}
	return out
}

// pairs are two Ids, of which the first is ahead, behind, or the same: by the Client, by the Req, and by the Client against the Req.
func pairs() [][2]api.Id {
	x := idOf(5, 7)
	out := [][2]api.Id{{x, x}, {{}, {}}}
	for _, y := range []api.Id{idOf(6, 7), idOf(5, 8), idOf(6, 0), idOf(math.MaxUint32, math.MaxUint64)} {
		out = append(out, [2]api.Id{x, y}, [2]api.Id{y, x})
	}
	return out
}

func places() []int {
	return []int{math.MinInt, math.MinInt + 1, -2, -1, 0, 1, 2, 5, 1 << 40, math.MaxInt - 1, math.MaxInt}
}

func kinds() []int {
	return []int{math.MinInt, -2, -1, api.Nop, api.Ins, api.Del, 3, 4, 9, 257, 258, math.MaxInt}
}

func codePoints() []api.Char {
	return []api.Char{math.MinInt32, -2, -1, 0, 1, 'a', 0xd7ff, 0xd800, 0xdbff, 0xdc00, 0xdfff, 0xe000, 0x10ffff, 0x110000, math.MaxInt32}
}

// all are units of every kind, place and code point, those that may be and those that may not.
func all() []api.Unit {
	var out []api.Unit
	for _, kind := range kinds() {
		for _, pos := range places() {
			for _, c := range codePoints() {
				out = append(out, unitOf(kind, pos, c, idOf(3, 4)))
			}
		}
	}
	return out
}

// wrong are units that may not be.
func wrong() []api.Unit {
	id := idOf(3, 4)
	out := []api.Unit{unitOf(api.Nop, 1, 0, id), unitOf(api.Nop, -1, 0, id), unitOf(api.Nop, math.MaxInt, 0, id), unitOf(api.Nop, 0, 1, id), unitOf(api.Nop, 0, -1, id)}
	for _, kind := range []int{api.Ins, api.Del} {
		for _, pos := range []int{-1, -2, math.MinInt} {
			out = append(out, unitOf(kind, pos, 'x', id))
		}
		for _, c := range []api.Char{-1, math.MinInt32, 0xd800, 0xdfff, 0x110000, math.MaxInt32} {
			out = append(out, unitOf(kind, 1, c, id))
		}
	}
	for _, kind := range []int{-1, 3, 9, math.MinInt, math.MaxInt, api.Ins + 256, api.Del + 1<<32} {
		out = append(out, unitOf(kind, 0, 0, id), unitOf(kind, 1, 'x', id))
	}
	return out
}

// fitting are all units that fit a text, each Del once as long as nobody knows its code point and once with it.
func fitting(text []api.Char, c api.Char, id api.Id) []api.Unit {
	out := []api.Unit{nop(id)}
	for pos := range len(text) + 1 {
		out = append(out, ins(pos, c, id))
	}
	for pos := range text {
		out = append(out, del(pos, 0, id), del(pos, text[pos], id))
	}
	return out
}

// may is the chapter's words, apart from May's own way.
func may(u api.Unit) bool {
	none := u.Kind == api.Nop && u.Pos == 0 && u.Char == 0
	one := u.Kind == api.Ins || u.Kind == api.Del
	return none || one && !(u.Pos < 0) && utf.May(u.Char)
}

// plain is the text behind a unit that fits it, code point by code point.
func plain(u api.Unit, text []api.Char) []api.Char {
	var out []api.Char
	for i := 0; i <= len(text); i++ {
		if u.Kind == api.Ins && i == u.Pos {
			out = append(out, u.Char)
		}
		if i < len(text) && !(u.Kind == api.Del && i == u.Pos) {
			out = append(out, text[i])
		}
	}
	return out
}

// carried is a behind b, told by what both mean on a text: a Del goes with its code point, and an Ins's place is how many code points stand ahead of it. What b brings must not stand in the text.
func carried(a, b api.Unit, text []api.Char) api.Unit {
	behind := plain(b, text)
	switch a.Kind {
	case api.Ins:
		ahead := text[:a.Pos]
		pos := 0
		for _, c := range behind {
			if slices.Contains(ahead, c) {
				pos++
			}
		}
		// What b brings is ahead of what a brings where it stands ahead, or at one place by its Id.
		if b.Kind == api.Ins && (b.Pos < a.Pos || b.Pos == a.Pos && first(b.Id, a.Id)) {
			pos++
		}
		a.Pos = pos
	case api.Del:
		a.Pos = slices.Index(behind, text[a.Pos])
		if a.Pos < 0 {
			return nop(a.Id)
		}
	}
	return a
}

// first is the chapter's words, apart from Ahead's own way.
func first(a, b api.Id) bool {
	if a.Client != b.Client {
		return a.Client < b.Client
	}
	return a.Req < b.Req
}

func wantChars(t *testing.T, what string, got, want []api.Char) {
	t.Helper()
	if !slices.Equal(got, want) {
		t.Errorf("%s: got %q, want %q", what, got, want)
	}
}

func wantUnit(t *testing.T, what string, got, want api.Unit) {
	t.Helper()
	if got != want {
		t.Errorf("%s: got %v, want %v", what, got, want)
	}
}

func applied(t *testing.T, u api.Unit, text []api.Char) []api.Char {
	t.Helper()
	out, e := Apply(u, text)
	if e != api.OK {
		t.Fatalf("Apply(%v, %q): got error %d", u, text, e)
	}
	return out
}

// P6.1 to P6.3: the chapter's examples.
func TestExamples(t *testing.T) {
	one, two := idOf(1, 1), idOf(2, 1)
	wantChars(t, "Ins x at 1 of abc", applied(t, ins(1, 'x', one), chars("abc")), chars("axbc"))
	wantChars(t, "Del at 1 of abc", applied(t, del(1, 0, one), chars("abc")), chars("ac"))
	wantUnit(t, "Ins of client 1", Over(ins(2, 'x', one), ins(2, 'y', two)), ins(2, 'x', one))
	wantUnit(t, "Ins of client 2", Over(ins(2, 'y', two), ins(2, 'x', one)), ins(3, 'y', two))
	wantUnit(t, "Del behind Del", Over(del(2, 0, one), del(2, 0, two)), nop(one))
	wantUnit(t, "Del behind Ins", Over(del(2, 0, one), ins(2, 'y', two)), del(3, 0, one))
}

// P6.1: May of every kind, place and code point; an Id says nothing.
func TestMay(t *testing.T) {
	for _, u := range all() {
		for _, id := range []api.Id{{}, idOf(3, 4), idOf(math.MaxUint32, math.MaxUint64)} {
			u.Id = id
			if May(u) != may(u) {
				t.Errorf("May(%v): got %t", u, May(u))
			}
		}
	}
	for _, u := range wrong() {
		if May(u) {
			t.Errorf("May(%v): got true", u)
		}
	}
	for _, u := range []api.Unit{{}, ins(0, 0, api.Id{}), del(0, 0, api.Id{}), ins(math.MaxInt, 0x10ffff, api.Id{}), del(math.MaxInt, 0x10ffff, api.Id{}), del(0, 'a', api.Id{})} {
		if !May(u) {
			t.Errorf("May(%v): got false", u)
		}
	}
}

// P6.1: Fits at each place of each length, and at the edges.
func TestFits(t *testing.T) {
	for _, length := range append(places(), 3, 4, 6) {
		for _, u := range all() {
			want := may(u)
			switch u.Kind {
			case api.Ins:
				want = want && !(u.Pos > length)
			case api.Del:
				want = want && !(u.Pos >= length)
			}
			if Fits(u, length) != want {
				t.Fatalf("Fits(%v, %d): got %t", u, length, Fits(u, length))
			}
		}
	}
	id := idOf(1, 1)
	for _, x := range []struct {
		u      api.Unit
		length int
		want   bool
	}{
		{nop(id), 0, true}, {nop(id), 5, true}, {nop(id), -1, true}, {nop(id), math.MinInt, true},
		{ins(0, 'x', id), 0, true}, {ins(1, 'x', id), 0, false}, {ins(0, 'x', id), -1, false},
		{ins(4, 'x', id), 5, true}, {ins(5, 'x', id), 5, true}, {ins(6, 'x', id), 5, false}, {ins(-1, 'x', id), 5, false},
		{ins(math.MaxInt, 'x', id), math.MaxInt, true}, {ins(math.MaxInt, 'x', id), math.MaxInt - 1, false},
		{del(0, 0, id), 0, false}, {del(0, 0, id), 1, true}, {del(0, 0, id), -1, false},
		{del(4, 0, id), 5, true}, {del(5, 0, id), 5, false}, {del(6, 0, id), 5, false}, {del(-1, 0, id), 5, false},
		{del(math.MaxInt-1, 0, id), math.MaxInt, true}, {del(math.MaxInt, 0, id), math.MaxInt, false},
	} {
		if Fits(x.u, x.length) != x.want {
			t.Errorf("Fits(%v, %d): got %t", x.u, x.length, !x.want)
		}
	}
	for _, u := range wrong() {
		if Fits(u, 5) {
			t.Errorf("Fits(%v, 5): got true", u)
		}
	}
}

// P6.1: Ahead of all pairs of Ids in their order: the lesser Client, then the lesser Req.
func TestAhead(t *testing.T) {
	for i, a := range ids() {
		for j, b := range ids() {
			if Ahead(a, b) != (i < j) {
				t.Errorf("Ahead(%v, %v): got %t", a, b, Ahead(a, b))
			}
		}
	}
	for _, p := range pairs() {
		if a, b := p[0], p[1]; Ahead(a, b) != first(a, b) {
			t.Errorf("Ahead(%v, %v): got %t", a, b, Ahead(a, b))
		}
	}
}

// P6.1: Grows tells of the kind alone.
func TestGrows(t *testing.T) {
	for _, u := range all() {
		want := 0
		if u.Kind == api.Ins {
			want = 1
		}
		if u.Kind == api.Del {
			want = -1
		}
		if got := Grows(u); got != want {
			t.Fatalf("Grows(%v): got %d", u, got)
		}
	}
}

// P6.1: Like of units that have one thing apart, both ways round, and of themselves.
func TestLike(t *testing.T) {
	for _, kind := range kinds() {
		u := unitOf(kind, 2, 'x', idOf(3, 4))
		apart := []api.Unit{
			unitOf(kind+7, 2, 'x', idOf(3, 4)),
			unitOf(kind, 3, 'x', idOf(3, 4)), unitOf(kind, -2, 'x', idOf(3, 4)), unitOf(kind, 2+1<<32, 'x', idOf(3, 4)),
			unitOf(kind, 2, 'x', idOf(4, 4)), unitOf(kind, 2, 'x', idOf(3, 5)), unitOf(kind, 2, 'x', idOf(4, 3)), unitOf(kind, 2, 'x', api.Id{}),
			unitOf(kind, 3, 'y', idOf(3, 4)), unitOf(kind, 2, 'y', idOf(4, 4)), unitOf(kind, 2, 0, idOf(3, 5)),
		}
		for _, other := range apart {
			if Like(u, other) || Like(other, u) {
				t.Errorf("Like of %v and %v: got true", u, other)
			}
		}
		for _, c := range codePoints() {
			other := unitOf(kind, 2, c, idOf(3, 4))
			want := kind == api.Del || c == 'x'
			if Like(u, other) != want || Like(other, u) != want {
				t.Errorf("Like of %v and %v: want %t", u, other, want)
			}
			if !Like(other, other) {
				t.Errorf("Like of %v and itself: got false", other)
			}
		}
	}
	for _, a := range kinds() {
		for _, b := range kinds() {
			x, y := api.Unit{Kind: a, Char: 'x'}, api.Unit{Kind: b, Char: 'y'}
			if Like(x, y) != (a == api.Del && b == api.Del) {
				t.Errorf("Like of %v and %v: got %t", x, y, Like(x, y))
			}
		}
	}
}

// P6.2: each unit at each place of short texts.
func TestApply(t *testing.T) {
	for size := range len(whole) + 1 {
		text := chars(whole[:size])
		for _, c := range []api.Char{'x', 0, 0x10ffff, 'a'} {
			for _, u := range fitting(text, c, idOf(3, 4)) {
				wantChars(t, "Apply", applied(t, u, text), plain(u, text))
			}
		}
	}
	id := api.Id{}
	for _, x := range []struct {
		u          api.Unit
		text, want string
	}{
		{nop(id), "", ""}, {nop(id), "abc", "abc"},
		{ins(0, 'x', id), "", "x"}, {ins(0, 'x', id), "abc", "xabc"}, {ins(2, 'x', id), "abc", "abxc"}, {ins(3, 'x', id), "abc", "abcx"},
		{del(0, 0, id), "a", ""}, {del(0, 0, id), "abc", "bc"}, {del(1, 'b', id), "abc", "ac"}, {del(2, 0, id), "abc", "ab"},
		{del(1, 'z', id), "abc", "ac"}, // what a Del's Char says is not asked
		{ins(1, 'a', id), "aaa", "aaaa"}, {del(1, 'a', id), "aaa", "aa"},
	} {
		wantChars(t, x.text, applied(t, x.u, chars(x.text)), chars(x.want))
	}
}

// P6.2: a text's code points are not asked whether they may be, and long texts.
func TestApplyAnyText(t *testing.T) {
	odd := codePoints()
	for _, u := range fitting(odd[:0:0], 'x', api.Id{}) {
		wantChars(t, "no text", applied(t, u, nil), plain(u, nil))
	}
	for pos := range odd {
		wantChars(t, "odd, Ins", applied(t, ins(pos, 'x', api.Id{}), odd), plain(ins(pos, 'x', api.Id{}), odd))
		wantChars(t, "odd, Del", applied(t, del(pos, 0, api.Id{}), odd), plain(del(pos, 0, api.Id{}), odd))
	}
	long := chars(strings.Repeat("abc", 20000))
	for _, pos := range []int{0, 1, 4096, len(long) - 1, len(long)} {
		u := ins(pos, 'x', api.Id{})
		wantChars(t, "long, Ins", applied(t, u, long), plain(u, long))
		if u = del(pos, 0, api.Id{}); pos < len(long) {
			wantChars(t, "long, Del", applied(t, u, long), plain(u, long))
		}
	}
}

// P6.2: the errors in their order, and nothing beside them.
func TestApplyRefuses(t *testing.T) {
	refuse := func(u api.Unit, text []api.Char, want api.Errno) {
		t.Helper()
		kept := slices.Clone(text)
		if got, e := Apply(u, text); e != want || len(got) != 0 {
			t.Errorf("Apply(%v, %q): got %q, error %d, want %d", u, text, got, e, want)
		}
		wantChars(t, "what was given", text, kept)
	}
	for size := range len(whole) + 1 {
		text := chars(whole[:size])
		for _, u := range wrong() {
			refuse(u, text, api.ErrArg)
		}
		for _, above := range []int{1, 2, 1 << 31, 1 << 32, 1 << 40, math.MaxInt - size} {
			refuse(ins(size+above, 'x', api.Id{}), text, api.ErrRange)
			refuse(del(size+above-1, 0, api.Id{}), text, api.ErrRange)
			refuse(del(size+above, 'x', api.Id{}), text, api.ErrRange)
			// A unit that may not be is that, wherever it stands.
			refuse(ins(size+above, -1, api.Id{}), text, api.ErrArg)
			refuse(del(size+above, 0xd800, api.Id{}), text, api.ErrArg)
			refuse(api.Unit{Pos: size + above}, text, api.ErrArg)
			refuse(api.Unit{Kind: 3, Pos: size + above}, text, api.ErrArg)
		}
	}
}

// P6.2: each answer agrees with Fits and May.
func TestApplyAgrees(t *testing.T) {
	for size := range 4 {
		text := chars(whole[:size])
		for _, u := range all() {
			want := api.OK
			if !Fits(u, size) {
				want = api.ErrRange
			}
			if !May(u) {
				want = api.ErrArg
			}
			if got, e := Apply(u, text); e != want || e != api.OK && len(got) != 0 {
				t.Errorf("Apply(%v, %q): got %q, error %d, want %d", u, text, got, e, want)
			}
		}
	}
}

// P6.2, R3: what is given stays, also the room behind it; what is told is new memory.
func TestApplyMemory(t *testing.T) {
	room := chars("abcdefuvw")
	kept := slices.Clone(room)
	for size := range len(whole) + 1 {
		text := room[:size]
		for _, u := range fitting(text, 'x', idOf(3, 4)) {
			got := applied(t, u, text)
			other := applied(t, u, text)
			want := slices.Clone(got)
			wantChars(t, "what was given", room, kept)
			for i := range got {
				got[i] = '!'
			}
			_ = append(got, '!', '!', '!')
			wantChars(t, "what was given, behind writing into an answer", room, kept)
			wantChars(t, "another answer", other, want)
			for i := range room {
				room[i] = '?'
			}
			wantChars(t, "another answer, behind writing into what was given", other, want)
			copy(room, kept)
		}
	}
}

// P6.3: the chapter's table, cell by cell.
func TestOverTable(t *testing.T) {
	for _, x := range []struct {
		kind, behind int
		p, q         int
		order        int // of a's Id, held against b's
		want         int // a place, or -1 of a Nop
	}{
		{api.Ins, api.Ins, 2, 3, -1, 2}, {api.Ins, api.Ins, 2, 3, 1, 2}, {api.Ins, api.Ins, 2, 3, 0, 2},
		{api.Ins, api.Ins, 3, 3, -1, 3}, {api.Ins, api.Ins, 3, 3, 1, 4}, {api.Ins, api.Ins, 3, 3, 0, 3},
		{api.Ins, api.Ins, 4, 3, -1, 5}, {api.Ins, api.Ins, 4, 3, 1, 5}, {api.Ins, api.Ins, 4, 3, 0, 5},
		{api.Ins, api.Del, 2, 3, -1, 2}, {api.Ins, api.Del, 3, 3, -1, 3}, {api.Ins, api.Del, 4, 3, -1, 3},
		{api.Ins, api.Del, 2, 3, 1, 2}, {api.Ins, api.Del, 3, 3, 1, 3}, {api.Ins, api.Del, 4, 3, 1, 3},
		{api.Del, api.Ins, 2, 3, -1, 2}, {api.Del, api.Ins, 3, 3, -1, 4}, {api.Del, api.Ins, 4, 3, -1, 5},
		{api.Del, api.Ins, 2, 3, 1, 2}, {api.Del, api.Ins, 3, 3, 1, 4}, {api.Del, api.Ins, 4, 3, 1, 5},
		{api.Del, api.Del, 2, 3, -1, 2}, {api.Del, api.Del, 3, 3, -1, -1}, {api.Del, api.Del, 4, 3, -1, 3},
		{api.Del, api.Del, 2, 3, 1, 2}, {api.Del, api.Del, 3, 3, 1, -1}, {api.Del, api.Del, 4, 3, 1, 3},
		{api.Ins, api.Ins, 0, 0, -1, 0}, {api.Ins, api.Ins, 0, 0, 1, 1}, {api.Ins, api.Del, 0, 0, 1, 0}, {api.Ins, api.Del, 1, 0, 1, 0},
		{api.Del, api.Ins, 0, 0, -1, 1}, {api.Del, api.Del, 0, 0, -1, -1}, {api.Del, api.Del, 1, 0, -1, 0},
	} {
		for _, p := range pairs() {
			if order(p) != x.order {
				continue
			}
			for _, c := range []api.Char{0, 'x', 0x10ffff} {
				a, b := unitOf(x.kind, x.p, c, p[0]), unitOf(x.behind, x.q, 'y', p[1])
				want := unitOf(x.kind, x.want, c, p[0])
				if x.want < 0 {
					want = nop(p[0])
				}
				wantUnit(t, "Over of the table", Over(a, b), want)
			}
		}
	}
}

func order(p [2]api.Id) int {
	switch {
	case p[0] == p[1]:
		return 0
	case first(p[0], p[1]):
		return -1
	}
	return 1
}

// bothOf hands on all pairs of units of short texts, of Ids that are ahead, behind, and the same.
func bothOf(hand func(text []api.Char, a, b api.Unit)) {
	for size := range len(whole) {
		text := chars(whole[:size])
		for _, p := range pairs() {
			for _, a := range fitting(text, 'x', p[0]) {
				for _, b := range fitting(text, 'y', p[1]) {
					hand(text, a, b)
				}
			}
		}
	}
}

// P6.3: all pairs of units of short texts: all but the place stays, and the place is where what the unit means stands.
func TestOverAllPairs(t *testing.T) {
	bothOf(func(text []api.Char, a, b api.Unit) {
		wantUnit(t, "Over", Over(a, b), carried(a, b, text))
	})
}

// P6.3: the Ids of all edges tell which of two Ins at one place stays ahead.
func TestOverIds(t *testing.T) {
	for i, a := range ids() {
		for j, b := range ids() {
			want := 2
			if j < i {
				want = 3
			}
			wantUnit(t, "Ins behind Ins", Over(ins(2, 'x', a), ins(2, 'x', b)), ins(want, 'x', a))
			wantUnit(t, "Del behind Ins", Over(del(2, 'x', a), ins(2, 'x', b)), del(3, 'x', a))
			wantUnit(t, "Ins behind Del", Over(ins(2, 'x', a), del(2, 'x', b)), ins(2, 'x', a))
			wantUnit(t, "Del behind Del", Over(del(2, 'x', a), del(2, 'x', b)), nop(a))
		}
	}
}

// P6.3: of units that may not be, either one: a, as it is.
func TestOverOfWrong(t *testing.T) {
	id := idOf(5, 5)
	good := []api.Unit{nop(id), ins(0, 'x', id), ins(1, 'x', id), ins(9, 'x', id), del(0, 0, id), del(1, 'x', id), del(9, 0, id)}
	for _, bad := range wrong() {
		for _, u := range good {
			wantUnit(t, "one that may not be, behind another", Over(bad, u), bad)
			wantUnit(t, "behind one that may not be", Over(u, bad), u)
		}
		for _, other := range wrong() {
			wantUnit(t, "two that may not be", Over(bad, other), bad)
		}
	}
	units := all()
	for i, a := range units {
		b := units[(i*37+11)%len(units)]
		if got := Over(a, b); !(may(a) && may(b)) && got != a {
			t.Errorf("Over(%v, %v): got %v", a, b, got)
		}
	}
}

// P6.3: at the greatest places, up to where a place behind is none of an int.
func TestOverGreatest(t *testing.T) {
	const most = math.MaxInt
	one, two := idOf(1, 1), idOf(2, 1)
	for _, x := range []struct{ a, b, want api.Unit }{
		{ins(most, 'x', one), ins(most, 'y', two), ins(most, 'x', one)},
		{ins(most-1, 'x', two), ins(most-1, 'y', one), ins(most, 'x', two)},
		{ins(most-1, 'x', two), ins(0, 'y', one), ins(most, 'x', two)},
		{ins(most-1, 'x', two), ins(most, 'y', one), ins(most-1, 'x', two)},
		{ins(most, 'x', one), del(most, 0, two), ins(most, 'x', one)},
		{ins(most, 'x', one), del(most-1, 0, two), ins(most-1, 'x', one)},
		{del(most-1, 0, one), ins(most-1, 'y', two), del(most, 0, one)},
		{del(most-1, 0, one), ins(most, 'y', two), del(most-1, 0, one)},
		{del(most, 0, one), del(most, 0, two), nop(one)},
		{del(most, 0, one), del(0, 0, two), del(most-1, 0, one)},
		{del(0, 0, one), del(most, 0, two), del(0, 0, one)},
		{ins(1<<32, 'x', one), del(1, 0, two), ins(1<<32-1, 'x', one)},
		{del(1<<32, 0, one), ins(1<<32, 'y', two), del(1<<32+1, 0, one)},
	} {
		wantUnit(t, "Over", Over(x.a, x.b), x.want)
	}
	// One behind the greatest is no place: the call answers, and what comes fits no text.
	for _, a := range []api.Unit{ins(most, 'x', two), del(most, 'x', two)} {
		got := Over(a, ins(0, 'y', one))
		if got.Kind != a.Kind || got.Char != a.Char || got.Id != a.Id || Fits(got, 1<<31) {
			t.Errorf("Over of %v: got %v", a, got)
		}
	}
}

// P6.4: both ways make one text, and each unit fits where it comes.
func TestBothWays(t *testing.T) {
	bothOf(func(text []api.Char, a, b api.Unit) {
		if a.Kind == api.Ins && b.Kind == api.Ins && a.Id == b.Id {
			return
		}
		afterA, afterB := applied(t, a, text), applied(t, b, text)
		x, y := Over(a, b), Over(b, a)
		if !Fits(x, len(afterB)) || !Fits(y, len(afterA)) {
			t.Fatalf("%v and %v on %q: %v and %v do not fit", a, b, text, x, y)
		}
		one, other := applied(t, y, afterA), applied(t, x, afterB)
		if !slices.Equal(one, other) {
			t.Fatalf("%v and %v on %q: %q and %q", a, b, text, one, other)
		}
		want := wantOfBoth(text, a, b)
		wantChars(t, "both", one, want)
	})
}

// wantOfBoth is the text that both units mean: each brings its own where it stood, and takes out its own.
func wantOfBoth(text []api.Char, a, b api.Unit) []api.Char {
	if first(b.Id, a.Id) {
		a, b = b, a
	}
	var out []api.Char
	for i := 0; i <= len(text); i++ {
		gone := false
		for _, u := range []api.Unit{a, b} {
			if u.Kind == api.Ins && u.Pos == i {
				out = append(out, u.Char)
			}
			gone = gone || u.Kind == api.Del && u.Pos == i
		}
		if i < len(text) && !gone {
			out = append(out, text[i])
		}
	}
	return out
}

// P6.5: over a Nop, and of a Nop, nothing changes; of a Del and itself a Nop is left.
func TestNops(t *testing.T) {
	for _, p := range pairs() {
		for _, u := range all() {
			u.Id = p[0]
			wantUnit(t, "behind a Nop", Over(u, nop(p[1])), u)
			wantUnit(t, "a Nop behind", Over(nop(p[1]), u), nop(p[1]))
			if u.Kind == api.Del && may(u) {
				wantUnit(t, "a Del and itself", Over(u, u), nop(u.Id))
			}
		}
		wantUnit(t, "a Nop behind a Nop", Over(nop(p[0]), nop(p[1])), nop(p[0]))
	}
	wantUnit(t, "Dels of which one is not known", Over(del(1, 0, idOf(1, 2)), del(1, 'x', idOf(3, 4))), nop(idOf(1, 2)))
	wantUnit(t, "and the other way round", Over(del(1, 'x', idOf(3, 4)), del(1, 0, idOf(1, 2))), nop(idOf(3, 4)))
}

// P6.6: what stands ahead of the place stays, what stands behind goes on by Grows, and the text with it.
func TestWhereItSays(t *testing.T) {
	for size := range len(whole) + 1 {
		text := chars(whole[:size])
		for _, u := range fitting(text, 'x', idOf(3, 4)) {
			got := applied(t, u, text)
			if len(got) != size+Grows(u) {
				t.Fatalf("Apply(%v, %q): got %q", u, text, got)
			}
			for i, c := range text {
				at := i
				switch {
				case u.Kind == api.Del && i == u.Pos:
					if slices.Contains(got, c) {
						t.Errorf("Apply(%v, %q): got %q", u, text, got)
					}
					continue
				case i >= u.Pos:
					at += Grows(u)
				}
				if got[at] != c {
					t.Errorf("Apply(%v, %q): got %q", u, text, got)
				}
			}
			if u.Kind == api.Ins && got[u.Pos] != 'x' {
				t.Errorf("Apply(%v, %q): got %q", u, text, got)
			}
		}
	}
}

// R7: what is answered hangs on what was called alone.
func TestSameAgain(t *testing.T) {
	bothOf(func(text []api.Char, a, b api.Unit) {
		once := Over(a, b)
		Over(b, a)
		wantUnit(t, "once more", Over(a, b), once)
	})
}
