package crc

import (
	"bytes"
	"math"
	"testing"

	"copybook/api"
)

// chance makes a row of numbers that looks like chance, and is the same each time.
func chance(seed uint64) func() uint64 {
	x := seed
	return func() uint64 {
		x = x*6364136223846793005 + 1442695040888963407
		return x>>32 ^ x<<32
	}
}

func mixed(size int, seed uint64) []byte {
	next := chance(seed)
	out := make([]byte, size)
	for i := range out {
		out[i] = byte(next())
	}
	return out
}

// rows are each single byte, even rows, and mixed ones of many lengths.
func rows() [][]byte {
	out := [][]byte{nil, {}, []byte("123456789"), bytes.Repeat([]byte{0}, 100), bytes.Repeat([]byte{0xff}, 100)}
	for x := range 256 {
		out = append(out, []byte{byte(x)}, []byte{byte(x), 0}, []byte{0, byte(x)})
	}
	for size := range 70 {
		out = append(out, mixed(size, uint64(size)+1))
	}
	return append(out, mixed(5000, 7))
}

// plainSum is the sum as the chapter's words say it, bit by bit.
func plainSum(b []byte) uint32 {
	register := uint32(math.MaxUint32)
	for _, x := range b {
		register ^= uint32(x)
		for range 8 {
			fell := register & 1
			register >>= 1
			if fell == 1 {
				register ^= 0xedb88320
			}
		}
	}
	return ^register
}

func plainFrame(b []byte) []byte {
	sum := plainSum(b)
	return append(bytes.Clone(b), byte(sum), byte(sum>>8), byte(sum>>16), byte(sum>>24))
}

func wantSum(t *testing.T, what string, got, want uint32) {
	t.Helper()
	if got != want {
		t.Errorf("%s: got %08x, want %08x", what, got, want)
	}
}

func wantBytes(t *testing.T, what string, got []byte, want ...byte) {
	t.Helper()
	if !bytes.Equal(got, want) {
		t.Errorf("%s: got % x, want % x", what, got, want)
	}
}

// wantRefused asks for the error, and for nothing beside it.
func wantRefused(t *testing.T, b []byte, want api.Errno) {
	t.Helper()
	if got, e := Strip(b); len(got) != 0 || e != want {
		t.Errorf("Strip(% x): got % x, %d, want %d", b, got, e, want)
	}
}

// P2.1: sums that are known.
func TestSumKnown(t *testing.T) {
	wantSum(t, "no parts", Sum(), 0)
	wantSum(t, "a part that is nil", Sum(nil), 0)
	wantSum(t, "an empty part", Sum([]byte{}), 0)
	wantSum(t, "several empty parts", Sum(nil, []byte{}, nil), 0)
	wantSum(t, "one 00", Sum([]byte{0}), 0xd202ef8d)
	wantSum(t, "one ff", Sum([]byte{0xff}), 0xff000000)
	wantSum(t, "four 00", Sum(make([]byte, 4)), 0x2144df1c)
	wantSum(t, "four ff", Sum(bytes.Repeat([]byte{0xff}, 4)), 0xffffffff)
	wantSum(t, "digits", Sum([]byte("123456789")), 0xcbf43926)
	wantSum(t, "a", Sum([]byte("a")), 0xe8b7be43)
	wantSum(t, "a line", Sum([]byte("The quick brown fox jumps over the lazy dog")), 0x414fa339)
}

// P2.1: the sum as the words say it.
func TestSumByItsWords(t *testing.T) {
	for _, b := range rows() {
		wantSum(t, "Sum", Sum(b), plainSum(b))
	}
}

// P2.1: parts are as one, wherever they are cut.
func TestSumOfParts(t *testing.T) {
	b := []byte("123456789")
	for i := range len(b) + 1 {
		wantSum(t, "two parts", Sum(b[:i], b[i:]), 0xcbf43926)
		for k := range i + 1 {
			wantSum(t, "three parts", Sum(b[:k], b[k:i], b[i:]), 0xcbf43926)
			wantSum(t, "with empty ones", Sum(nil, b[:k], nil, b[k:i], []byte{}, b[i:], nil), 0xcbf43926)
		}
	}
	var single [][]byte
	for i := range b {
		single = append(single, b[i:i+1])
	}
	wantSum(t, "byte by byte", Sum(single...), 0xcbf43926)
	if Sum([]byte("12"), []byte("34")) == Sum([]byte("34"), []byte("12")) {
		t.Error("the order of parts does not matter")
	}
}

// P2.1: More goes on from a sum.
func TestMore(t *testing.T) {
	wantSum(t, "from none", More(0, []byte("123456789")), 0xcbf43926)
	wantSum(t, "one 00", More(0, []byte{0}), 0xd202ef8d)
	for _, sum := range []uint32{0, 1, 0xcbf43926, math.MaxUint32} {
		wantSum(t, "with nothing behind", More(sum, nil), sum)
		wantSum(t, "with nothing behind", More(sum, []byte{}), sum)
	}
	for _, b := range rows() {
		for _, cut := range []int{0, 1, len(b) / 2, len(b) - 1, len(b)} {
			if cut < 0 || cut > len(b) {
				continue
			}
			wantSum(t, "More", More(plainSum(b[:cut]), b[cut:]), plainSum(b))
		}
	}
}

// P2.1: every number is the sum of some four bytes, and More goes on from each as from these.
func TestMoreFromAnySum(t *testing.T) {
	next := chance(3)
	for range 2000 {
		ahead, behind := mixed(4, next()), mixed(int(next()%9), next())
		whole := append(bytes.Clone(ahead), behind...)
		wantSum(t, "More", More(plainSum(ahead), behind), plainSum(whole))
	}
}

// P2.2: the frame is the bytes, and the sum's four behind them, the lowest first.
func TestMark(t *testing.T) {
	wantBytes(t, "of nil", Mark(nil), 0, 0, 0, 0)
	wantBytes(t, "of none", Mark([]byte{}), 0, 0, 0, 0)
	wantBytes(t, "of one 00", Mark([]byte{0}), 0, 0x8d, 0xef, 0x02, 0xd2)
	wantBytes(t, "of digits", Mark([]byte("123456789")), append([]byte("123456789"), 0x26, 0x39, 0xf4, 0xcb)...)
	for _, b := range rows() {
		wantBytes(t, "Mark", Mark(b), plainFrame(b)...)
	}
}

// P2.2: what was marked is stripped to what it was, also what was marked twice.
func TestStrip(t *testing.T) {
	for _, b := range rows() {
		got, e := Strip(plainFrame(b))
		if e != api.OK || !bytes.Equal(got, b) {
			t.Errorf("Strip of a frame of % x: got % x, %d", b, got, e)
		}
		once, e := Strip(Mark(Mark(b)))
		if e != api.OK || !bytes.Equal(once, Mark(b)) {
			t.Errorf("Strip of a frame's frame of % x: got % x, %d", b, once, e)
		}
	}
	if got, e := Strip([]byte{0, 0, 0, 0}); len(got) != 0 || e != api.OK {
		t.Errorf("Strip of the frame of none: got % x, %d", got, e)
	}
}

// P2.2: ErrShort below four bytes, whatever they are.
func TestStripShort(t *testing.T) {
	wantRefused(t, nil, api.ErrShort)
	for size := range 4 {
		wantRefused(t, make([]byte, size), api.ErrShort)
		wantRefused(t, bytes.Repeat([]byte{0xff}, size), api.ErrShort)
		wantRefused(t, mixed(size, 5), api.ErrShort)
	}
	frame := Mark([]byte{0})
	for size := range 4 {
		wantRefused(t, frame[:size], api.ErrShort)
		wantRefused(t, frame[len(frame)-size:], api.ErrShort)
	}
}

// P2.2: ErrSum, if the last four are not the sum of those ahead.
func TestStripWrongSum(t *testing.T) {
	wantRefused(t, []byte{0, 0, 0, 1}, api.ErrSum)
	wantRefused(t, []byte{1, 0, 0, 0}, api.ErrSum)
	wantRefused(t, []byte{0, 0, 0, 0, 0}, api.ErrSum)
	wantRefused(t, []byte("123456789"), api.ErrSum)
	wantRefused(t, append([]byte("123456789"), 0xcb, 0xf4, 0x39, 0x26), api.ErrSum) // the highest first
	wantRefused(t, append([]byte{0x26, 0x39, 0xf4, 0xcb}, "123456789"...), api.ErrSum)
	frame := Mark([]byte("123456789"))
	for size := 4; size < len(frame); size++ {
		wantRefused(t, frame[:size], api.ErrSum)
		wantRefused(t, frame[len(frame)-size:], api.ErrSum)
	}
	wantRefused(t, append(bytes.Clone(frame), 0), api.ErrSum)
}

// P2.2, by its words: Strip tells the bytes ahead exactly if the last four are their sum.
func TestStripByItsWords(t *testing.T) {
	for _, b := range rows() {
		if len(b) < 4 {
			wantRefused(t, b, api.ErrShort)
			continue
		}
		ahead := b[:len(b)-4]
		got, e := Strip(b)
		if bytes.Equal(plainFrame(ahead), b) {
			if e != api.OK || !bytes.Equal(got, ahead) {
				t.Errorf("Strip(% x): got % x, %d", b, got, e)
			}
		} else if e != api.ErrSum || len(got) != 0 {
			t.Errorf("Strip(% x): got % x, %d", b, got, e)
		}
	}
}

// turn turns those of up to 32 bits in a row, from the place at on, that the pattern has. A byte's lowest bit is the first, as the register takes them.
func turn(frame []byte, at int, pattern uint32) []byte {
	out := bytes.Clone(frame)
	for i := range 32 {
		if pattern>>i&1 == 1 {
			out[(at+i)/8] ^= 1 << ((at + i) % 8)
		}
	}
	return out
}

// patterns are single bits, pairs, full rows, and mixed ones of every width up to 32; all begin with a bit that is turned.
func patterns() []uint32 {
	next := chance(11)
	out := []uint32{1, math.MaxUint32, 0xedb88321, 0xdb710641}
	for width := 2; width <= 32; width++ {
		ends := uint32(1) | 1<<(width-1)
		out = append(out, ends, 1<<(width-1)<<1-1)
		for range 4 {
			out = append(out, ends|uint32(next())&(1<<(width-1)-1))
		}
	}
	return out
}

func width(pattern uint32) int {
	out := 0
	for ; pattern > 0; pattern >>= 1 {
		out++
	}
	return out
}

// P2.3: bits that are turned within 32 in a row, at every place of a frame, its sum's own bytes too.
func TestTurnedBits(t *testing.T) {
	for _, b := range [][]byte{nil, {0}, {0xff}, []byte("ab"), []byte("123456789"), make([]byte, 40), mixed(33, 2)} {
		frame := Mark(b)
		for _, pattern := range patterns() {
			for at := range 8*len(frame) - width(pattern) + 1 {
				wantRefused(t, turn(frame, at, pattern), api.ErrSum)
			}
		}
	}
}

// P2.3: up to four whole bytes that are changed at once, those of the sum itself too.
func TestTurnedBytes(t *testing.T) {
	next := chance(17)
	for _, b := range [][]byte{nil, {0}, []byte("123456789"), mixed(20, 4)} {
		frame := Mark(b)
		for range 2000 {
			at := int(next() % uint64(len(frame)-3))
			if pattern := uint32(next()); pattern != 0 {
				wantRefused(t, turn(frame, 8*at, pattern), api.ErrSum)
				wantRefused(t, turn(frame, 8*len(b), pattern), api.ErrSum)
			}
		}
	}
}

func xored(a, b, c []byte) []byte {
	out := make([]byte, len(a))
	for i := range out {
		out[i] = a[i] ^ b[i] ^ c[i]
	}
	return out
}

// P2.4: three rows of one length, xored.
func TestThreeRows(t *testing.T) {
	for size := range 100 {
		for seed := range uint64(5) {
			a, b, c := mixed(size, 3*seed), mixed(size, 3*seed+1), mixed(size, 3*seed+2)
			wantSum(t, "three rows", Sum(xored(a, b, c)), Sum(a)^Sum(b)^Sum(c))
			wantSum(t, "one of them twice", Sum(xored(a, a, c)), Sum(c))
		}
	}
}

// P2.5: the sum of every frame is one number.
func TestSumOfFrame(t *testing.T) {
	for _, b := range rows() {
		wantSum(t, "a frame", Sum(Mark(b)), 0x2144df1c)
		wantSum(t, "a frame in parts", Sum(b, Mark(b)[len(b):]), 0x2144df1c)
	}
}

// P2.2, R3: what is marked is new memory; what was given, and the room behind it, stays.
func TestMarkNewMemory(t *testing.T) {
	room := bytes.Repeat([]byte{0xee}, 20)
	out := Mark(room[:2])
	wantBytes(t, "the room", room, bytes.Repeat([]byte{0xee}, 20)...)
	out[0] = 1
	wantBytes(t, "what was given", room, bytes.Repeat([]byte{0xee}, 20)...)
	room[1] = 2
	wantBytes(t, "the answer", out[:2], 1, 0xee)
	first, second := Mark(nil), Mark(nil)
	first[0] = 9
	wantBytes(t, "another answer", second, 0, 0, 0, 0)
}

// P2.2, R3: what is stripped is new memory, also the room behind it; what was given stays.
func TestStripNewMemory(t *testing.T) {
	frame := Mark([]byte("abc"))
	kept := bytes.Clone(frame)
	out, _ := Strip(frame)
	wantBytes(t, "what was given", frame, kept...)
	out[0] = 'z'
	_ = append(out, 1, 2, 3, 4)
	wantBytes(t, "what was given", frame, kept...)
	frame[1] = 'y'
	wantBytes(t, "the answer", out, 'z', 'b', 'c')
}

// R3: what is read stays, also if it is refused.
func TestReadOnly(t *testing.T) {
	a, b := []byte("123456789"), []byte{0, 0, 0, 1}
	Sum(a, b)
	More(5, a)
	Strip(a)
	Strip(b)
	wantBytes(t, "the first", a, []byte("123456789")...)
	wantBytes(t, "the second", b, 0, 0, 0, 1)
}
