package num

import (
	"bytes"
	"math"
	"testing"

	"copybook/api"
)

// numbers are all edges of bits, each with its neighbours, and some spread between.
func numbers() []uint64 {
	out := []uint64{0, math.MaxUint64, 0x0123456789abcdef, 0xfedcba9876543210}
	for k := range 64 {
		edge := uint64(1) << k
		out = append(out, edge-1, edge, edge+1, -edge, edge|0x55)
	}
	x := uint64(1)
	for range 500 {
		x = x*6364136223846793005 + 1442695040888963407
		out = append(out, x, x>>(x%64))
	}
	return out
}

// ones is count times ff, and the rest behind it.
func ones(count int, rest ...byte) []byte {
	return append(bytes.Repeat([]byte{0xff}, count), rest...)
}

// plainSize counts bytes by the number's bits, apart from Size's own way.
func plainSize(n uint64) int {
	for size := 1; size < 10; size++ {
		if n < 1<<(7*size) {
			return size
		}
	}
	return 10
}

func wantBytes(t *testing.T, what string, got []byte, want ...byte) {
	t.Helper()
	if !bytes.Equal(got, want) {
		t.Errorf("%s: got % x, want % x", what, got, want)
	}
}

// P1.1: the bytes of a number, and how many they are.
func TestPut(t *testing.T) {
	for _, x := range []struct {
		n    uint64
		want []byte
	}{
		{0, []byte{0}},
		{1, []byte{1}},
		{0x7f, []byte{0x7f}},
		{0x80, []byte{0x80, 1}},
		{0x12c, []byte{0xac, 2}},
		{0x3fff, []byte{0xff, 0x7f}},
		{0x4000, []byte{0x80, 0x80, 1}},
		{1<<63 - 1, ones(8, 0x7f)},
		{1 << 63, []byte{0x80, 0x80, 0x80, 0x80, 0x80, 0x80, 0x80, 0x80, 0x80, 1}},
		{math.MaxUint64, ones(9, 1)},
	} {
		wantBytes(t, "Put", Put(nil, x.n), x.want...)
		wantBytes(t, "Put behind", Put([]byte{9, 0x80}, x.n), append([]byte{9, 0x80}, x.want...)...)
		if got := Size(x.n); got != len(x.want) {
			t.Errorf("Size(%x): got %d, want %d", x.n, got, len(x.want))
		}
	}
}

// P1.1: as few bytes as it takes, each but the last with the highest bit.
func TestPutForm(t *testing.T) {
	for _, n := range numbers() {
		b := Put(nil, n)
		if want := plainSize(n); len(b) != want || Size(n) != want {
			t.Fatalf("%x: % x, Size %d, want %d bytes", n, b, Size(n), want)
		}
		var back uint64
		for i, x := range b {
			if (x >= 0x80) != (i < len(b)-1) {
				t.Fatalf("%x: % x: byte %d", n, b, i)
			}
			back |= uint64(x%0x80) << (7 * i)
		}
		if back != n {
			t.Fatalf("%x: % x tells %x", n, b, back)
		}
	}
}

// P1.1: a number with a sign, folded.
func TestFold(t *testing.T) {
	for _, x := range []struct {
		n    int64
		want uint64
	}{
		{0, 0}, {-1, 1}, {1, 2}, {-2, 3}, {2, 4},
		{63, 126}, {-64, 127}, {64, 128},
		{math.MaxInt64, math.MaxUint64 - 1},
		{math.MinInt64, math.MaxUint64},
		{math.MinInt64 + 1, math.MaxUint64 - 2},
	} {
		if got := Fold(x.n); got != x.want {
			t.Errorf("Fold(%d): got %d, want %d", x.n, got, x.want)
		}
		if got := Unfold(x.want); got != x.n {
			t.Errorf("Unfold(%d): got %d, want %d", x.want, got, x.n)
		}
	}
	for _, n := range numbers() {
		if Fold(Unfold(n)) != n || Unfold(Fold(int64(n))) != int64(n) {
			t.Errorf("%x: Fold and Unfold do not turn each other back", n)
		}
	}
}

// P1.1, P1.2: numbers with a sign as bytes, and back.
func TestInt(t *testing.T) {
	wantBytes(t, "PutInt(0)", PutInt(nil, 0), 0)
	wantBytes(t, "PutInt(-1)", PutInt([]byte{5}, -1), 5, 1)
	wantBytes(t, "PutInt(-64)", PutInt(nil, -64), 0x7f)
	wantBytes(t, "PutInt(64)", PutInt(nil, 64), 0x80, 1)
	wantBytes(t, "PutInt(least)", PutInt(nil, math.MinInt64), ones(9, 1)...)
	wantBytes(t, "PutInt(greatest)", PutInt(nil, math.MaxInt64), append([]byte{0xfe}, ones(8, 1)...)...)
	for _, u := range numbers() {
		n := int64(u)
		b := PutInt(nil, n)
		wantBytes(t, "PutInt", b, Put(nil, Fold(n))...)
		got, size, e := GetInt(append(b, 0x80))
		if got != n || size != len(b) || e != api.OK {
			t.Errorf("GetInt(% x): got %d, %d, %d, want %d", b, got, size, e, n)
		}
	}
}

// P1.1, P1.3: fixed bytes, the lowest first, and back.
func TestFixed(t *testing.T) {
	wantBytes(t, "Put4", Put4(nil, 0x01020304), 4, 3, 2, 1)
	wantBytes(t, "Put4 behind", Put4([]byte{9, 8}, 0x80), 9, 8, 0x80, 0, 0, 0)
	wantBytes(t, "Put4 greatest", Put4(nil, math.MaxUint32), ones(4)...)
	wantBytes(t, "Put4 zero", Put4(nil, 0), 0, 0, 0, 0)
	wantBytes(t, "Put8", Put8(nil, 0x0102030405060708), 8, 7, 6, 5, 4, 3, 2, 1)
	wantBytes(t, "Put8 behind", Put8([]byte{9, 8}, 0x80), 9, 8, 0x80, 0, 0, 0, 0, 0, 0, 0)
	wantBytes(t, "Put8 greatest", Put8(nil, math.MaxUint64), ones(8)...)
	wantBytes(t, "Put8 zero", Put8(nil, 0), 0, 0, 0, 0, 0, 0, 0, 0)
	for _, n := range numbers() {
		for _, rest := range [][]byte{nil, {0}, ones(9)} {
			if got, e := Get4(append(Put4(nil, uint32(n)), rest...)); got != uint32(n) || e != api.OK {
				t.Errorf("Get4: got %x, %d, want %x", got, e, uint32(n))
			}
			if got, e := Get8(append(Put8(nil, n), rest...)); got != n || e != api.OK {
				t.Errorf("Get8: got %x, %d, want %x", got, e, n)
			}
		}
	}
}

// P1.3: ErrShort, and no number beside it.
func TestFixedShort(t *testing.T) {
	for count := range 8 {
		got, e := Get8(ones(count))
		if got != 0 || e != api.ErrShort {
			t.Errorf("Get8 of %d bytes: got %x, %d", count, got, e)
		}
	}
	for count := range 4 {
		got, e := Get4(ones(count))
		if got != 0 || e != api.ErrShort {
			t.Errorf("Get4 of %d bytes: got %x, %d", count, got, e)
		}
	}
	if _, e := Get4(ones(4)); e != api.OK {
		t.Errorf("Get4 of 4 bytes: got %d", e)
	}
	if _, e := Get8(ones(8)); e != api.OK {
		t.Errorf("Get8 of 8 bytes: got %d", e)
	}
}

// P1.2: what is no number's bytes is refused by name, with nothing beside it.
func TestGetRefuses(t *testing.T) {
	check := func(b []byte, want api.Errno) {
		t.Helper()
		if n, size, e := Get(b); n != 0 || size != 0 || e != want {
			t.Errorf("Get(% x): got %x, %d, %d, want %d", b, n, size, e, want)
		}
		if n, size, e := GetInt(b); n != 0 || size != 0 || e != want {
			t.Errorf("GetInt(% x): got %x, %d, %d, want %d", b, n, size, e, want)
		}
	}
	check(nil, api.ErrShort)
	check([]byte{}, api.ErrShort)
	for count := 1; count < 10; count++ {
		check(ones(count), api.ErrShort)
		check(bytes.Repeat([]byte{0x80}, count), api.ErrShort)
		// a last byte that is 0 and not the only one, whatever stands behind
		check(ones(count, 0), api.ErrForm)
		check(ones(count, 0, 1), api.ErrForm)
		check(append(bytes.Repeat([]byte{0x80}, count), 0), api.ErrForm)
	}
	// the first ten all have the highest bit
	check(ones(10), api.ErrForm)
	check(ones(10, 1), api.ErrForm)
	check(ones(20, 0), api.ErrForm)
	check(bytes.Repeat([]byte{0x80}, 10), api.ErrForm)
	check(ones(9, 0x80), api.ErrForm)
	check(ones(9, 0x81, 1), api.ErrForm)
	// the tenth is above 1
	for _, tenth := range []byte{2, 3, 0x40, 0x7f} {
		check(ones(9, tenth), api.ErrForm)
		check(ones(9, tenth, 0), api.ErrForm)
		check(append(bytes.Repeat([]byte{0x80}, 9), tenth), api.ErrForm)
	}
}

// P1.2: what stands behind the number's bytes does not matter, not even a great tenth byte or a 0.
func TestGetTakesTheBeginning(t *testing.T) {
	for _, x := range []struct {
		b    []byte
		n    uint64
		size int
	}{
		{[]byte{0}, 0, 1},
		{[]byte{0, 0}, 0, 1},
		{[]byte{0, 0x80}, 0, 1},
		{[]byte{0x7f, 0xff}, 0x7f, 1},
		{[]byte{0x80, 1}, 0x80, 2},
		{[]byte{0xac, 2, 0}, 0x12c, 2},
		{[]byte{1, 0, 0, 0, 0, 0, 0, 0, 0, 9}, 1, 1},
		{append([]byte{5}, ones(12)...), 5, 1},
		{ones(8, 0x7f, 2), 1<<63 - 1, 9},
		{ones(8, 1, 0), 1<<57 - 1, 9},
		{ones(9, 1), math.MaxUint64, 10},
		{ones(9, 1, 0xff), math.MaxUint64, 10},
	} {
		if n, size, e := Get(x.b); n != x.n || size != x.size || e != api.OK {
			t.Errorf("Get(% x): got %x, %d, %d", x.b, n, size, e)
		}
	}
}

// P1.4: Get of what Put told is the number and its Size.
func TestBack(t *testing.T) {
	for _, n := range numbers() {
		b := Put(nil, n)
		for _, rest := range [][]byte{nil, {0}, {7}, {0x80}, ones(11)} {
			whole := append(bytes.Clone(b), rest...)
			if got, size, e := Get(whole); got != n || size != Size(n) || e != api.OK {
				t.Fatalf("Get(% x): got %x, %d, %d, want %x, %d", whole, got, size, e, n, Size(n))
			}
		}
	}
}

// everyRow hands on each row of up to three bytes, and rows of up to twelve made of the bytes at which something changes.
func everyRow(hand func([]byte)) {
	hand(nil)
	for a := range 256 {
		hand([]byte{byte(a)})
		for b := range 256 {
			hand([]byte{byte(a), byte(b)})
			for _, c := range []byte{0, 1, 0x7f, 0x80, 0xff} {
				hand([]byte{byte(a), byte(b), c})
			}
		}
	}
	for _, first := range []byte{0x80, 0x81, 0xff} {
		for count := 3; count < 12; count++ {
			for last := range 256 {
				hand(append(bytes.Repeat([]byte{first}, count), byte(last)))
			}
		}
	}
}

// P1.4: what Get reads, Put writes again.
func TestNoOtherBytes(t *testing.T) {
	everyRow(func(b []byte) {
		n, size, e := Get(b)
		if e == api.OK && !bytes.Equal(Put(nil, n), b[:size]) {
			t.Fatalf("Get(% x): %x, %d, but Put tells % x", b, n, size, Put(nil, n))
		}
	})
}

// P1.2, as its words say it, against Get.
func TestGetByItsWords(t *testing.T) {
	everyRow(func(b []byte) {
		high := 0
		for high < len(b) && high < 10 && b[high] >= 0x80 {
			high++
		}
		want := api.OK
		switch {
		case high == len(b) && len(b) < 10:
			want = api.ErrShort
		case high == 10, high == 9 && b[9] > 1, high > 0 && b[high] == 0:
			want = api.ErrForm
		}
		if _, _, e := Get(b); e != want {
			t.Fatalf("Get(% x): got %d, want %d", b, e, want)
		}
	})
}

// P1.5: no number's bytes are a beginning of another one's; a greater one has no fewer.
func TestOrder(t *testing.T) {
	all := numbers()[:324] // the edges
	for _, n := range all {
		for _, m := range all {
			if n < m && Size(n) > Size(m) {
				t.Fatalf("%x has %d bytes, %x has %d", n, Size(n), m, Size(m))
			}
			if n != m && bytes.HasPrefix(Put(nil, m), Put(nil, n)) {
				t.Fatalf("% x is a beginning of % x", Put(nil, n), Put(nil, m))
			}
		}
	}
}

// P1.1, R3: what is put is new memory; what was given, and the room behind it, stays.
func TestNewMemory(t *testing.T) {
	for name, put := range map[string]func([]byte) []byte{
		"Put":    func(b []byte) []byte { return Put(b, 0x12c) },
		"PutInt": func(b []byte) []byte { return PutInt(b, -300) },
		"Put4":   func(b []byte) []byte { return Put4(b, 0x01020304) },
		"Put8":   func(b []byte) []byte { return Put8(b, 0x0102030405060708) },
	} {
		room := bytes.Repeat([]byte{0xee}, 20)
		out := put(room[:2])
		wantBytes(t, name+": the room", room, bytes.Repeat([]byte{0xee}, 20)...)
		wantBytes(t, name+": the beginning", out[:2], 0xee, 0xee)
		out[0] = 1
		if room[0] != 0xee {
			t.Errorf("%s: the answer shares memory with what was given", name)
		}
		wantBytes(t, name+": of nil and of empty", put(nil), put([]byte{})...)
	}
}

// R3: what is read stays.
func TestReadOnly(t *testing.T) {
	b := ones(9, 1, 7, 7)
	Get(b)
	GetInt(b)
	Get4(b)
	Get8(b)
	wantBytes(t, "what was read", b, ones(9, 1, 7, 7)...)
}
