package cmd

import (
	"bytes"
	"math"
	"slices"
	"strings"
	"testing"

	"copybook/api"
	"copybook/num"
)

// A record is things, each a row of bytes at a place of its own.

func join(record [][]byte) []byte { return slices.Concat(record...) }

// things are numbers, each a thing.
func things(ns ...uint64) [][]byte {
	var out [][]byte
	for _, n := range ns {
		out = append(out, number(n))
	}
	return out
}

// cmdRecord: the Name at 2, how many units at 5, these at 6, 11, 16.
func cmdRecord() [][]byte {
	return slices.Concat(things(4, 300), [][]byte{counted("n\u00e9")}, things(1<<30, 200, 3, 1, 2, 'x', 1, 7, 2, 300, 0, 1, 7, 0, 0, 0, 1, 7))
}

// answerRecord: how many code points at 4, how many Ops at 8, these at 9 (its units at 13, 18), 23, 27 (at 31), how many Seats at 36.
func answerRecord() [][]byte {
	return things(6, 5, 1<<20, 1, 3, 'x', 0x10ffff, 0, 3,
		300, 1<<50, 1, 2, 1, 2, 'y', 1, 7, 0, 0, 0, 1, 7,
		2, 3, 0, 0,
		math.MaxUint32, 5, 0, 1, 2, 300, 'z', 1, 9,
		2, 3, 4, 5, 6, 7, 8)
}

// noticeRecord: the Op at 3, its units at 7, 12.
func noticeRecord() [][]byte {
	return things(4, 200, 1<<33, 300, 1<<50, 1, 2, 1, 2, 'y', 1, 7, 2, 3, 'x', 1, 7)
}

func records() map[string][][]byte {
	return map[string][][]byte{"command": cmdRecord(), "answer": answerRecord(), "notice": noticeRecord()}
}

// fault is something wrong with a record: another thing at a place, which is told when the thing at told was read.
type fault struct {
	at    int
	thing []byte
	told  int
	want  api.Errno
}

func wrongAt(at int, n uint64, want api.Errno) fault { return fault{at, number(n), at, want} }

// above are numbers above what may be at a place.
func above(at int, most uint64, want api.Errno) []fault {
	out := []fault{wrongAt(at, most+1, want), wrongAt(at, math.MaxUint64, want)}
	for _, n := range []uint64{1 << 16, 1 << 32, 1<<32 + 1, 1<<40 + 1, 1 << 63} {
		if n > most {
			out = append(out, wrongAt(at, n, want))
		}
	}
	return out
}

// unitFaults are those of a unit at a place: some are told at once, the others behind the row's last thing.
func unitFaults(at int, kind uint64, row int) []fault {
	out := slices.Concat(above(at, 2, api.ErrForm), above(at+1, 1<<31, api.ErrLong), above(at+2, 0x10ffff, api.ErrLong), above(at+3, math.MaxUint32, api.ErrLong))
	if kind == api.Nop {
		return append(out, fault{at + 1, number(1), row, api.ErrForm}, fault{at + 1, number(1 << 31), row, api.ErrForm}, fault{at + 2, number(1), row, api.ErrForm}, fault{at + 2, number(0x10ffff), row, api.ErrForm})
	}
	return append(out, fault{at, number(0), row, api.ErrForm}, fault{at + 2, number(0xd800), row, api.ErrForm}, fault{at + 2, number(0xdfff), row, api.ErrForm})
}

func opFaults(at int) []fault {
	return slices.Concat(above(at, math.MaxUint32, api.ErrLong), above(at+2, 1, api.ErrForm), above(at+3, 256, api.ErrLong))
}

func cmdFaults() []fault {
	out := slices.Concat(above(0, 9, api.ErrForm), []fault{wrongAt(0, 0, api.ErrForm)}, above(1, math.MaxUint32, api.ErrLong))
	for _, name := range longNames() {
		out = append(out, fault{2, counted(name), 2, api.ErrLong})
	}
	for _, name := range []string{"\xff", "a\xc3", strings.Repeat("n", 63) + "\x80", "\xed\xa0\x80"} {
		out = append(out, fault{2, counted(name), 2, api.ErrText})
	}
	out = slices.Concat(out, above(3, 1<<40, api.ErrLong), above(4, 1<<31, api.ErrLong), above(5, 256, api.ErrLong))
	return slices.Concat(out, unitFaults(6, api.Ins, 20), unitFaults(11, api.Del, 20), unitFaults(16, api.Nop, 20))
}

func answerFaults() []fault {
	out := slices.Concat(above(0, math.MaxInt64, api.ErrLong), above(1, math.MaxUint32, api.ErrLong), above(2, 1<<40, api.ErrLong), above(3, 1, api.ErrForm), above(4, 4096, api.ErrLong))
	for at := 5; at < 8; at++ {
		out = append(out, above(at, 0x10ffff, api.ErrLong)...)
		out = append(out, wrongAt(at, 0xd800, api.ErrText), wrongAt(at, 0xdc00, api.ErrText), wrongAt(at, 0xdfff, api.ErrText))
	}
	// Without Whole.
	out = append(out, fault{3, number(0), 7, api.ErrForm})
	out = slices.Concat(out, above(8, 256, api.ErrLong), opFaults(9), unitFaults(13, api.Ins, 22), unitFaults(18, api.Nop, 22), opFaults(23), opFaults(27), unitFaults(31, api.Del, 35), above(36, 16, api.ErrLong))
	for _, at := range []int{37, 40} {
		out = slices.Concat(out, above(at, math.MaxUint32, api.ErrLong), above(at+1, 1<<31, api.ErrLong))
	}
	return out
}

func noticeFaults() []fault {
	return slices.Concat(above(0, math.MaxUint32, api.ErrLong), above(1, math.MaxUint32, api.ErrLong), above(2, 1<<40, api.ErrLong), opFaults(3), unitFaults(7, api.Ins, 16), unitFaults(12, api.Del, 16))
}

func faults(kind string) []fault {
	switch kind {
	case "command":
		return cmdFaults()
	case "answer":
		return answerFaults()
	}
	return noticeFaults()
}

// P15.2: the records that all faults stand in may be.
func TestRecords(t *testing.T) {
	for kind, record := range records() {
		wantError(t, kind, join(record), api.OK)
	}
}

// P15.2, P15.5: each beginning of what may be, and bytes behind it.
func TestParseCut(t *testing.T) {
	all := map[string][][]byte{"command": {}, "answer": {}, "notice": {}}
	for kind, record := range records() {
		all[kind] = append(all[kind], join(record))
	}
	for _, c := range goodCmds() {
		all["command"] = append(all["command"], cmdBytes(c))
	}
	for _, a := range goodAnswers() {
		all["answer"] = append(all["answer"], answerBytes(a))
	}
	for _, n := range goodNotices() {
		all["notice"] = append(all["notice"], noticeBytes(n))
	}
	for kind, list := range all {
		for _, b := range list {
			for size := range b {
				if size < 200 || size > len(b)-20 {
					wantError(t, kind, b[:size], api.ErrShort)
				}
			}
			for _, behind := range [][]byte{{0}, {1}, {0x80}, {0xff}, make([]byte, 50), b} {
				wantError(t, kind, slices.Concat(b, behind), api.ErrLong)
			}
		}
		wantError(t, kind, nil, api.ErrShort)
		wantError(t, kind, []byte{}, api.ErrShort)
	}
}

// P15.2: each thing that is wrong, alone, ahead of each place where the bytes end, and with bytes behind.
func TestParseFaults(t *testing.T) {
	for kind, good := range records() {
		for _, x := range faults(kind) {
			bad := slices.Clone(good)
			bad[x.at] = x.thing
			wantError(t, kind, join(bad), x.want)
			wantError(t, kind, append(join(bad), 0), x.want)
			for size := range good {
				if size > x.told {
					wantError(t, kind, join(bad[:size]), x.want)
				} else {
					wantError(t, kind, join(bad[:size]), api.ErrShort)
				}
			}
		}
	}
}

// P15.2: of two faults the one that is told first counts.
func TestParseTwoFaults(t *testing.T) {
	for kind, good := range records() {
		for _, x := range faults(kind) {
			for _, y := range faults(kind) {
				bad := slices.Clone(good)
				bad[x.at] = x.thing
				bad[y.at] = y.thing
				if y.at > x.told {
					wantError(t, kind, join(bad), x.want)
				} else {
					kinds()[kind](t, join(bad))
				}
			}
		}
	}
}

// P15.2: numbers that may be, at each place, to the last one.
func TestParseMay(t *testing.T) {
	edges := map[string]map[int][]uint64{
		"command": {0: {1, 2, 8, 9}, 1: {0, math.MaxUint32}, 3: {0, 1 << 40}, 4: {0, 1 << 31}, 6: {1, 2}, 7: {0, 1 << 31}, 8: {0, 0xd7ff, 0xe000, 0x10ffff}, 9: {0, math.MaxUint32}, 10: {0, math.MaxUint64}, 11: {1, 2}, 12: {0, 1 << 31}, 13: {0, 0x10ffff}, 16: {0, 1, 2}, 19: {0, math.MaxUint32}, 20: {math.MaxUint64}},
		"answer":  {0: {0, 1, 39, 40, 1 << 32, math.MaxInt64}, 1: {0, math.MaxUint32}, 2: {0, 1 << 40}, 3: {1}, 5: {0, 0xd7ff, 0xe000, 0x10ffff}, 7: {0, 0xd7ff, 0xe000, 0x10ffff}, 9: {0, math.MaxUint32}, 10: {0, math.MaxUint64}, 11: {0, 1}, 14: {0, 1 << 31}, 15: {0, 0xd7ff, 0xe000}, 25: {0, 1}, 32: {0, 1 << 31}, 37: {0, math.MaxUint32}, 38: {0, 1 << 31}, 39: {0, 1<<40 + 65, math.MaxUint64}, 40: {0, math.MaxUint32}, 41: {0, 1 << 31}, 42: {0, math.MaxUint64}},
		"notice":  {0: {0, math.MaxUint32}, 1: {0, math.MaxUint32}, 2: {0, 1 << 40}, 3: {0, math.MaxUint32}, 4: {0, math.MaxUint64}, 5: {0, 1}, 8: {0, 1 << 31}, 9: {0, 0x10ffff}, 13: {0, 1 << 31}},
	}
	for kind, places := range edges {
		for at, ns := range places {
			for _, n := range ns {
				good := slices.Clone(records()[kind])
				good[at] = number(n)
				wantError(t, kind, join(good), api.OK)
			}
		}
	}
}

// P15.2: names of each size around the most, and such as are no text, also where the bytes end in them.
func TestParseNames(t *testing.T) {
	good := cmdRecord()
	with := func(name string) []byte { return join(slices.Concat(good[:2], [][]byte{counted(name)}, good[3:])) }
	for size := range 200 {
		want := api.OK
		if size > 64 {
			want = api.ErrLong
		}
		wantError(t, "command", with(strings.Repeat("n", size)), want)
	}
	for _, name := range goodNames() {
		wantError(t, "command", with(name), api.OK)
	}
	for _, name := range longNames() {
		wantError(t, "command", with(name), api.ErrLong)
	}
	for _, name := range noTexts() {
		wantError(t, "command", with(name), api.ErrText)
		cut := join(append(slices.Clone(good[:2]), counted(name)))
		wantError(t, "command", cut, api.ErrText)
		wantError(t, "command", cut[:len(cut)-1], api.ErrShort)
	}
	for _, size := range []uint64{65, 1 << 16, 1 << 32, 1<<32 + 1, 1 << 63, math.MaxUint64} {
		wantError(t, "command", join(append(slices.Clone(good[:2]), number(size))), api.ErrLong)
	}
	wantError(t, "command", join(append(slices.Clone(good[:2]), number(64))), api.ErrShort)
}

// P15.2: as many units, operations, code points and seats as may be, and one more, also where what is behind is wanting.
func TestParseMost(t *testing.T) {
	for _, n := range []int{255, 256, 257, 258, 512} {
		want := api.OK
		if n > 256 {
			want = api.ErrLong
		}
		row := slices.Repeat(numbers(1, 0, 'a', 1, 1), n)
		op := slices.Concat(numbers(1, 1, 0, uint64(n)), row)
		wantError(t, "command", slices.Concat(numbers(4, 1, 0, 0, 0, uint64(n)), row), want)
		wantError(t, "notice", slices.Concat(numbers(4, 1, 0), op), want)
		wantError(t, "answer", slices.Concat(numbers(0, 0, 0, 0, 0, 1), op, numbers(0)), want)
		wantError(t, "answer", slices.Concat(numbers(0, 0, 0, 0, 0, uint64(n)), slices.Repeat(numbers(1, 1, 0, 0), n), numbers(0)), want)
	}
	for _, n := range []int{4095, 4096, 4097, 4098} {
		want := api.OK
		if n > 4096 {
			want = api.ErrLong
		}
		wantError(t, "answer", slices.Concat(numbers(0, 0, 0, 1, uint64(n)), slices.Repeat(number('t'), n), numbers(0, 0)), want)
	}
	for _, n := range []int{15, 16, 17, 18} {
		want := api.OK
		if n > 16 {
			want = api.ErrLong
		}
		wantError(t, "answer", slices.Concat(numbers(0, 0, 0, 1, 0, 0, uint64(n)), slices.Repeat(numbers(1, 2, 3), n)), want)
	}
}

// P15.2: code points without Whole count behind all of them, and ahead of all that stands behind them.
func TestParseWhole(t *testing.T) {
	for whole := range uint64(2) {
		form := api.OK
		if whole == 0 {
			form = api.ErrForm
		}
		wantError(t, "answer", numbers(0, 0, 0, whole, 0, 0, 0), api.OK)
		wantError(t, "answer", numbers(0, 0, 0, whole, 1, 0, 0, 0), form)
		wantError(t, "answer", slices.Concat(numbers(0, 0, 0, whole, 4096), slices.Repeat(number('t'), 4096), numbers(0, 0)), form)
		wantError(t, "answer", numbers(0, 0, 0, whole, 4097), api.ErrLong)
		wantError(t, "answer", numbers(0, 0, 0, whole, 2, 'a'), api.ErrShort)
		wantError(t, "answer", numbers(0, 0, 0, whole, 2, 'a', 0xd800), api.ErrText)
		wantError(t, "answer", numbers(0, 0, 0, whole, 2, 0xdfff), api.ErrText)
		wantError(t, "answer", numbers(0, 0, 0, whole, 2, 'a', 0x110000), api.ErrLong)
		if whole == 0 {
			wantError(t, "answer", numbers(0, 0, 0, 0, 2, 'a', 'b'), api.ErrForm)
			wantError(t, "answer", numbers(0, 0, 0, 0, 2, 'a', 'b', 257), api.ErrForm)
			wantError(t, "answer", numbers(0, 0, 0, 0, 2, 'a', 'b', 0, 17), api.ErrForm)
			wantError(t, "answer", numbers(0, 0, 0, 0, 2, 'a', 'b', 0, 0, 0), api.ErrForm)
		}
	}
	wantError(t, "answer", numbers(0, 0, 0, 2, 0, 0, 0), api.ErrForm)
}

// P15.2: code points as numbers: each around the edges, by itself and behind others.
func TestParseChars(t *testing.T) {
	for _, n := range []uint64{0, 1, 0x7f, 0x80, 0xd7fe, 0xd7ff, 0xd800, 0xd801, 0xdbff, 0xdc00, 0xdffe, 0xdfff, 0xe000, 0xfffe, 0xffff, 0x10000, 0x10fffe, 0x10ffff, 0x110000, 0x110061, 0x1fffff, 1 << 24, 1<<31 - 1, 1 << 31, 1<<32 - 1, 1 << 32, 1<<32 + 'a', 1<<32 + 0xd800, 1 << 63, math.MaxUint64} {
		want := api.OK
		switch {
		case n > 0x10ffff:
			want = api.ErrLong
		case 0xd800 <= n && n <= 0xdfff:
			want = api.ErrText
		}
		wantError(t, "answer", numbers(0, 0, 0, 1, 1, n, 0, 0), want)
		wantError(t, "answer", numbers(0, 0, 0, 1, 3, 'a', n, 'b', 0, 0), want)
		wantError(t, "answer", numbers(0, 0, 0, 1, 3, 'a', 0x10ffff, n, 0, 0), want)
	}
}

// P15.2: numbers in more bytes than they need, or in too many, are a number's errors, at each place.
func TestParseNumbers(t *testing.T) {
	for kind, good := range records() {
		for at := range good {
			for _, odd := range [][]byte{{0x80, 0}, {0x81, 0x80, 0}, bytes.Repeat([]byte{0xff}, 9), bytes.Repeat([]byte{0xff}, 11), append(bytes.Repeat([]byte{0xff}, 9), 2)} {
				b := slices.Concat(join(good[:at]), odd, join(good[at+1:]))
				if _, _, want := num.Get(b[len(join(good[:at])):]); want != api.OK {
					wantError(t, kind, b, want)
				} else {
					kinds()[kind](t, b)
				}
			}
		}
	}
}

// P15.2, P15.4: each byte changed to each other one, taken out, and doubled; what is read, put again, is the same bytes.
func TestParseChangedBytes(t *testing.T) {
	for kind, record := range records() {
		b := join(record)
		parse := kinds()[kind]
		seen := map[api.Errno]int{}
		for at := range b {
			for x := range 256 {
				changed := slices.Clone(b)
				changed[at] = byte(x)
				seen[parse(t, changed)]++
			}
			parse(t, slices.Delete(slices.Clone(b), at, at+1))
			parse(t, slices.Insert(slices.Clone(b), at, b[at]))
		}
		for _, e := range []api.Errno{api.OK, api.ErrLong, api.ErrShort, api.ErrForm} {
			if seen[e] < 10 {
				t.Errorf("a %s: error %d: seen %d times", kind, e, seen[e])
			}
		}
	}
}

// P15.2, P15.4: records of which any things are others, are wanting, or too many.
func TestParseChanged(t *testing.T) {
	below := chance()
	some := []uint64{0, 1, 2, 3, 4, 5, 6, 9, 10, 16, 17, 'a', 255, 256, 257, 4096, 4097, 0xd7ff, 0xd800, 0xdfff, 0x10ffff, 0x110000, 1 << 31, 1<<31 + 1, 1<<32 - 1, 1 << 32, 1 << 40, 1<<40 + 1, 1 << 63, 1<<64 - 1}
	for kind, record := range records() {
		parse := kinds()[kind]
		seen := map[api.Errno]int{}
		for range 30000 {
			b := slices.Clone(record)
			for range 1 + below(3) {
				at := below(len(b))
				switch below(8) {
				case 0:
					b = slices.Delete(b, at, at+1)
				case 1:
					b = slices.Insert(b, at, number(some[below(6)]))
				case 2, 3, 4:
					b[at] = number(some[below(9)])
				default:
					b[at] = number(some[below(len(some))])
				}
			}
			seen[parse(t, join(b))]++
		}
		for _, e := range []api.Errno{api.OK, api.ErrLong, api.ErrShort, api.ErrForm} {
			if seen[e] < 500 {
				t.Errorf("a %s: error %d: seen %d times", kind, e, seen[e])
			}
		}
	}
}

// P15.2, P15.4: no bytes at all are read as anything that may not be: all rows of few small numbers, and rows of bytes of all kinds.
func TestParseAnything(t *testing.T) {
	var all func(b []byte, more int)
	all = func(b []byte, more int) {
		for _, parse := range kinds() {
			parse(t, b)
		}
		if more == 0 {
			return
		}
		for x := range byte(4) {
			all(append(slices.Clone(b), x), more-1)
		}
	}
	all(nil, 7)
	below := chance()
	for range 20000 {
		b := make([]byte, below(40))
		for i := range b {
			b[i] = byte(below(1 + below(256)))
		}
		for _, parse := range kinds() {
			parse(t, b)
		}
	}
}
