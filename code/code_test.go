package code_test

import (
	"bytes"
	"math"
	"slices"
	"testing"

	"transputer/api"
	"transputer/code"
)

const (
	most  int32 = math.MaxInt32
	least int32 = math.MinInt32
)

// functions are those of instructions, and prefixes those that are none.
var (
	functions = []uint8{0, 1, 3, 4, 5, 7, 8, 9, 10, 11, 12, 13, 14, 15}
	prefixes  = []uint8{2, 6}
	invalid   = []uint8{2, 6, 16, 17, 18, 22, 31, 32, 34, 64, 127, 128, 240, 254, 255}
)

// operands returns the words next to which an encoding grows, or changes its sign.
func operands() []int32 {
	l := []int32{least, least + 1, least + 15, least + 16, most - 16, most - 15, most - 1, most, 1000000, -1000000, 0x12345678, -0x12345678, 0x0f0f0f0f, -0x0f0f0f0f}
	for v := int32(-40); v <= 40; v++ {
		l = append(l, v)
	}
	for places := 8; places < 32; places += 4 {
		for d := int32(-17); d <= 17; d++ {
			l = append(l, 1<<places+d, -1<<places+d)
		}
	}
	return l
}

// random returns numbers in a fixed order without a pattern.
func random(seed uint32) func() uint32 {
	return func() uint32 {
		seed = seed*1664525 + 1013904223
		return seed>>9 ^ seed<<17
	}
}

// randomInstr returns a valid instruction; operands of all lengths are about as frequent.
func randomInstr(pick func() uint32) api.Instr {
	fn := functions[int(pick()>>3)%len(functions)]
	return api.Instr{Fn: fn, Arg: int32(pick()) >> (pick() >> 4 % 32)}
}

// reference returns the encoding by the chapter's rules, in integers that do not wrap.
func reference(fn uint8, v int64) []byte {
	last := byte(int64(fn)*16 + (v%16+16)%16)
	switch {
	case v < 0:
		return append(reference(api.FnNfix, (-1-v)/16), last)
	case v >= 16:
		return append(reference(api.FnPfix, v/16), last)
	}
	return []byte{last}
}

// execute is Get by the chapter's rules, with an operand register whose bits are kept one by one, the lowest one first.
func execute(b []byte) (x api.Instr, n int, e api.Errno) {
	var register [32]bool
	for i := 0; i < len(b) && i < 16; i++ {
		fn, data := b[i]/16, b[i]%16
		for k := range 4 {
			register[k] = register[k] || data>>k&1 == 1
		}
		if fn != 2 && fn != 6 {
			return api.Instr{Fn: fn, Arg: wordOf(register)}, i + 1, api.OK
		}
		var shifted [32]bool
		for k := range 28 {
			shifted[k+4] = register[k] != (fn == 6)
		}
		register = shifted
	}
	if len(b) >= 16 {
		return x, 0, api.ErrLong
	}
	return x, 0, api.ErrShort
}

func wordOf(register [32]bool) int32 {
	v := int64(0)
	for k, set := range register {
		if set {
			v += 1 << k
		}
	}
	if v > math.MaxInt32 {
		v -= 1 << 32
	}
	return int32(v)
}

// executeAll is All by the chapter's rules.
func executeAll(b []byte) (l []api.Instr, e api.Errno) {
	if len(b) > 32768 {
		return nil, api.ErrLong
	}
	for len(b) > 0 {
		x, n, e := execute(b)
		if e != api.OK {
			return nil, e
		}
		l, b = append(l, x), b[n:]
	}
	return l, api.OK
}

func checkPut(t *testing.T, x api.Instr, want []byte) {
	t.Helper()
	if n := code.Len(x); n != len(want) {
		t.Errorf("Len of %v: %d, want %d", x, n, len(want))
	}
	if b, e := code.Put(x); !bytes.Equal(b, want) || e != api.OK {
		t.Errorf("Put of %v: %x, %d, want %x", x, b, e, want)
	}
}

func checkPad(t *testing.T, x api.Instr, n int, want []byte, wanted api.Errno) {
	t.Helper()
	if b, e := code.Pad(x, n); !bytes.Equal(b, want) || e != wanted {
		t.Errorf("Pad of %v to %d: %x, %d, want %x, %d", x, n, b, e, want, wanted)
	}
}

func checkGet(t *testing.T, b []byte, want api.Instr, size int, wanted api.Errno) {
	t.Helper()
	if x, n, e := code.Get(b); x != want || n != size || e != wanted {
		t.Errorf("Get of %x: %v, %d, %d, want %v, %d, %d", b, x, n, e, want, size, wanted)
	}
}

func checkJoin(t *testing.T, l []api.Instr, want []byte, wanted api.Errno) {
	t.Helper()
	if b, e := code.Join(l); !bytes.Equal(b, want) || e != wanted {
		t.Errorf("Join of %d instructions: %d bytes, %d, want %d bytes, %d", len(l), len(b), e, len(want), wanted)
	}
}

func checkAll(t *testing.T, b []byte, want []api.Instr, wanted api.Errno) {
	t.Helper()
	if l, e := code.All(b); !slices.Equal(l, want) || e != wanted {
		t.Errorf("All of %d bytes: %d instructions, %d, want %d, %d", len(b), len(l), e, len(want), wanted)
	}
}

// repeated returns l, n times.
func repeated[T any](n int, l ...T) []T { return slices.Repeat(l, n) }

// TestExamples has the examples of the chapter.
func TestExamples(t *testing.T) {
	ldc := func(v int32) api.Instr { return api.Instr{Fn: api.FnLdc, Arg: v} }
	opr := func(v int32) api.Instr { return api.Instr{Fn: api.FnOpr, Arg: v} }
	checkPut(t, ldc(5), []byte{0x45})
	checkPut(t, ldc(17), []byte{0x21, 0x41})
	checkPut(t, ldc(256), []byte{0x21, 0x20, 0x40})
	checkPut(t, ldc(-1), []byte{0x60, 0x4f})
	checkPut(t, ldc(-31), []byte{0x61, 0x41})
	checkPut(t, opr(0x53), []byte{0x25, 0xf3})
	if a, b := code.Len(api.Instr{Fn: api.FnJ, Arg: least}), code.Len(api.Instr{Fn: api.FnPfix}); a != 8 || b != 0 {
		t.Error(a, b)
	}
	checkPad(t, ldc(5), 3, []byte{0x20, 0x20, 0x45}, api.OK)
	checkPad(t, ldc(5), 0, nil, api.ErrRange)
	checkPad(t, ldc(5), 17, nil, api.ErrLong)
	checkGet(t, []byte{0x20, 0x20, 0x45, 0x99}, ldc(5), 3, api.OK)
	checkGet(t, []byte{0x61}, api.Instr{}, 0, api.ErrShort)
	checkGet(t, repeated[byte](16, 0x20), api.Instr{}, 0, api.ErrLong)
	checkAll(t, []byte{0x45, 0xf5}, []api.Instr{ldc(5), opr(5)}, api.OK)
	checkAll(t, nil, nil, api.OK)
	checkAll(t, []byte{0x45, 0x25}, nil, api.ErrShort)
}

// TestPut has encodings that are written out, each for all functions (0 in the high bits of the last byte).
func TestPut(t *testing.T) {
	for _, x := range []struct {
		v int32
		b []byte
	}{
		{0, []byte{0x00}},
		{1, []byte{0x01}},
		{14, []byte{0x0e}},
		{15, []byte{0x0f}},
		{16, []byte{0x21, 0x00}},
		{31, []byte{0x21, 0x0f}},
		{32, []byte{0x22, 0x00}},
		{254, []byte{0x2f, 0x0e}},
		{255, []byte{0x2f, 0x0f}},
		{256, []byte{0x21, 0x20, 0x00}},
		{257, []byte{0x21, 0x20, 0x01}},
		{4095, []byte{0x2f, 0x2f, 0x0f}},
		{4096, []byte{0x21, 0x20, 0x20, 0x00}},
		{0x754, []byte{0x27, 0x25, 0x04}},
		{-1, []byte{0x60, 0x0f}},
		{-2, []byte{0x60, 0x0e}},
		{-15, []byte{0x60, 0x01}},
		{-16, []byte{0x60, 0x00}},
		{-17, []byte{0x61, 0x0f}},
		{-32, []byte{0x61, 0x00}},
		{-33, []byte{0x62, 0x0f}},
		{-255, []byte{0x6f, 0x01}},
		{-256, []byte{0x6f, 0x00}},
		{-257, []byte{0x21, 0x60, 0x0f}},
		{-4096, []byte{0x2f, 0x6f, 0x00}},
		{-4097, []byte{0x21, 0x20, 0x60, 0x0f}},
		{0x0fffffff, []byte{0x2f, 0x2f, 0x2f, 0x2f, 0x2f, 0x2f, 0x0f}},
		{0x10000000, []byte{0x21, 0x20, 0x20, 0x20, 0x20, 0x20, 0x20, 0x00}},
		{-0x10000000, []byte{0x2f, 0x2f, 0x2f, 0x2f, 0x2f, 0x6f, 0x00}},
		{-0x10000001, []byte{0x21, 0x20, 0x20, 0x20, 0x20, 0x20, 0x60, 0x0f}},
		{most, []byte{0x27, 0x2f, 0x2f, 0x2f, 0x2f, 0x2f, 0x2f, 0x0f}},
		{most - 1, []byte{0x27, 0x2f, 0x2f, 0x2f, 0x2f, 0x2f, 0x2f, 0x0e}},
		{least, []byte{0x27, 0x2f, 0x2f, 0x2f, 0x2f, 0x2f, 0x6f, 0x00}},
		{least + 1, []byte{0x27, 0x2f, 0x2f, 0x2f, 0x2f, 0x2f, 0x6f, 0x01}},
	} {
		for _, fn := range functions {
			b := slices.Clone(x.b)
			b[len(b)-1] += fn << 4
			checkPut(t, api.Instr{Fn: fn, Arg: x.v}, b)
			checkGet(t, b, api.Instr{Fn: fn, Arg: x.v}, len(b), api.OK)
		}
	}
}

// TestPutReference compares encodings with those by the chapter's rules.
func TestPutReference(t *testing.T) {
	for _, v := range operands() {
		for _, fn := range functions {
			checkPut(t, api.Instr{Fn: fn, Arg: v}, reference(fn, int64(v)))
		}
	}
	pick := random(4)
	for range 20000 {
		x := randomInstr(pick)
		checkPut(t, x, reference(x.Fn, int64(x.Arg)))
	}
}

func TestInvalid(t *testing.T) {
	sizes := []int{math.MinInt, -1, 0, 1, 8, 16, 17, math.MaxInt}
	good := api.Instr{Fn: api.FnLdc, Arg: 5}
	for _, fn := range invalid {
		for _, v := range []int32{0, 1, 5, 15, 16, -1, least, most} {
			x := api.Instr{Fn: fn, Arg: v}
			if n := code.Len(x); n != 0 {
				t.Error("Len:", x, n)
			}
			if b, e := code.Put(x); len(b) != 0 || e != api.ErrArg {
				t.Error("Put:", x, b, e)
			}
			for _, n := range sizes {
				checkPad(t, x, n, nil, api.ErrArg)
			}
			checkJoin(t, []api.Instr{x}, nil, api.ErrArg)
			checkJoin(t, []api.Instr{x, good}, nil, api.ErrArg)
			checkJoin(t, []api.Instr{good, good, x}, nil, api.ErrArg)
		}
	}
	for fn := range 256 {
		x := api.Instr{Fn: uint8(fn)}
		if valid := slices.Contains(functions, x.Fn); valid != (code.Len(x) == 1) || !valid && code.Len(x) != 0 {
			t.Error(fn, code.Len(x))
		}
	}
}

func TestPad(t *testing.T) {
	for _, v := range operands() {
		for _, fn := range functions {
			x := api.Instr{Fn: fn, Arg: v}
			plain := reference(fn, int64(v))
			size := len(plain)
			for n := size; n <= 16; n++ {
				want := append(bytes.Repeat([]byte{0x20}, n-size), plain...)
				checkPad(t, x, n, want, api.OK)
				checkGet(t, want, x, n, api.OK)
			}
			for _, n := range []int{size - 1, size - 2, 0, -1, -16, -17, math.MinInt32, math.MinInt} {
				checkPad(t, x, n, nil, api.ErrRange)
			}
			for _, n := range []int{17, 18, 32, 1 << 15, 1<<15 + 1, 1 << 31, 1 << 32, 1<<32 + 16, math.MaxInt} {
				checkPad(t, x, n, nil, api.ErrLong)
			}
		}
	}
}

// TestGet has byte sequences that no encoding begins with, or that are not encodings.
func TestGet(t *testing.T) {
	ldc := func(v int32) api.Instr { return api.Instr{Fn: api.FnLdc, Arg: v} }
	zeros := func(n int, after ...byte) []byte { return append(bytes.Repeat([]byte{0x20}, n), after...) }
	for _, x := range []struct {
		b     []byte
		instr api.Instr
		n     int
		e     api.Errno
	}{
		{nil, api.Instr{}, 0, api.ErrShort},
		{[]byte{}, api.Instr{}, 0, api.ErrShort},
		{[]byte{0x00}, api.Instr{}, 1, api.OK},
		{[]byte{0xff}, api.Instr{Fn: api.FnOpr, Arg: 15}, 1, api.OK},
		{[]byte{0x20}, api.Instr{}, 0, api.ErrShort},
		{[]byte{0x2f, 0x6f}, api.Instr{}, 0, api.ErrShort},
		{[]byte{0x60, 0x40}, ldc(-16), 2, api.OK},
		{[]byte{0x20, 0x4f}, ldc(15), 2, api.OK},
		{[]byte{0x60, 0x60, 0x41}, ldc(0xf1), 3, api.OK},        // NFIX twice: a longer form of PFIX 15
		{[]byte{0x6f, 0x6f, 0x40}, ldc(0xf00), 3, api.OK},       // -256 or 15 is -241, of which all bits are inverted to 240
		{[]byte{0x61, 0x22, 0x43}, ldc(-0x1dd), 3, api.OK},      // -32 or 2 is -30; -480 or 3 is -477
		{[]byte{0x60, 0x21, 0x45}, ldc(-0x100 + 21), 3, api.OK}, // -16 or 1 is -15; -240 or 5 is -235
		{[]byte{0x45, 0x26, 0x60}, ldc(5), 1, api.OK},
		{[]byte{0x21, 0x45, 0x20, 0x20}, ldc(21), 2, api.OK},
		// Data are shifted out of the word: eight bytes and more behind them.
		{[]byte{0x2f, 0x20, 0x20, 0x20, 0x20, 0x20, 0x20, 0x20, 0x43}, ldc(3), 9, api.OK},
		{[]byte{0x21, 0x2f, 0x20, 0x20, 0x20, 0x20, 0x20, 0x20, 0x43}, ldc(-0x10000000 + 3), 9, api.OK},
		{[]byte{0x28, 0x20, 0x20, 0x20, 0x20, 0x20, 0x20, 0x40}, ldc(least), 8, api.OK},
		{[]byte{0x2f, 0x2f, 0x2f, 0x2f, 0x2f, 0x2f, 0x2f, 0x4f}, ldc(-1), 8, api.OK},
		{append(bytes.Repeat([]byte{0x2f}, 15), 0x4f), ldc(-1), 16, api.OK},
		{append(bytes.Repeat([]byte{0x6f}, 15), 0x40), ldc(0x0f0f0f00), 16, api.OK}, // the bits of each NFIX are inverted by those behind it
		{zeros(14), api.Instr{}, 0, api.ErrShort},
		{zeros(15), api.Instr{}, 0, api.ErrShort},
		{zeros(16), api.Instr{}, 0, api.ErrLong},
		{zeros(17), api.Instr{}, 0, api.ErrLong},
		{zeros(14, 0x45), ldc(5), 15, api.OK},
		{zeros(15, 0x45), ldc(5), 16, api.OK},
		{zeros(15, 0x45, 0x46), ldc(5), 16, api.OK},
		{zeros(16, 0x45), api.Instr{}, 0, api.ErrLong},
		{zeros(17, 0x45), api.Instr{}, 0, api.ErrLong},
		{zeros(40000, 0x45), api.Instr{}, 0, api.ErrLong},
		{append([]byte{0x45}, zeros(40000)...), ldc(5), 1, api.OK},
	} {
		if y, n, e := execute(x.b); y != x.instr || n != x.n || e != x.e {
			t.Fatalf("reference of %x: %v, %d, %d", x.b, y, n, e)
		}
		checkGet(t, x.b, x.instr, x.n, x.e)
	}
}

// TestGetReference executes all sequences of up to two bytes, and random ones that consist mostly of prefixes.
func TestGetReference(t *testing.T) {
	check := func(b []byte) {
		x, n, e := execute(b)
		checkGet(t, b, x, n, e)
	}
	for a := range 256 {
		check([]byte{byte(a)})
		for b := range 256 {
			check([]byte{byte(a), byte(b)})
		}
	}
	pick := random(7)
	for range 50000 {
		b := make([]byte, pick()>>5%20)
		for i := range b {
			b[i] = byte(pick() >> 6)
			if pick()>>7%16 != 0 {
				b[i] = prefixes[pick()>>8%2]<<4 | b[i]&15
			}
		}
		check(b)
	}
}

// TestShortest decodes all instructions of up to four bytes, and others: none is shorter than the encoding.
func TestShortest(t *testing.T) {
	check := func(b []byte) {
		x, n, e := code.Get(b)
		if e != api.OK || n != len(b) {
			t.Fatalf("%x: %d, %d", b, n, e)
		}
		if code.Len(x) > n || code.Len(x) < 1 {
			t.Fatalf("%x is shorter than the %d bytes of %v", b, code.Len(x), x)
		}
	}
	var all func(b []byte, more int)
	all = func(b []byte, more int) {
		for data := range byte(16) {
			check(append(b, 0x40|data))
			for _, fn := range prefixes {
				if more > 0 {
					all(append(b, fn<<4|data), more-1)
				}
			}
		}
	}
	all(make([]byte, 0, 8), 3)
	pick := random(11)
	for range 50000 {
		b := make([]byte, 1+pick()>>5%16)
		for i := range b {
			b[i] = prefixes[pick()>>8%2]<<4 | byte(pick()>>6)&15
		}
		b[len(b)-1] = 0x90 | byte(pick()>>6)&15
		check(b)
	}
}

// TestBack decodes what Put and Pad returned, with other bytes behind it.
func TestBack(t *testing.T) {
	back := func(x api.Instr, b []byte, e api.Errno) {
		t.Helper()
		if e != api.OK {
			t.Fatal(x, e)
		}
		checkGet(t, b, x, len(b), api.OK)
		checkAll(t, b, []api.Instr{x}, api.OK)
		checkGet(t, append(slices.Clone(b), 0x2f, 0x6f), x, len(b), api.OK)
		for n := range b {
			checkGet(t, b[:n], api.Instr{}, 0, api.ErrShort) // of a capacity with the whole instruction
		}
	}
	for _, v := range operands() {
		x := api.Instr{Fn: api.FnAdc, Arg: v}
		b, e := code.Put(x)
		back(x, b, e)
		for n := code.Len(x); n <= 16; n++ {
			b, e := code.Pad(x, n)
			back(x, b, e)
		}
	}
}

func TestJoin(t *testing.T) {
	l := []api.Instr{{Fn: api.FnLdl, Arg: 1}, {Fn: api.FnAdc, Arg: -3}, {Fn: api.FnJ, Arg: 100000}, {}, {Fn: api.FnOpr, Arg: api.OpIn}}
	checkJoin(t, l, []byte{0x71, 0x60, 0x8d, 0x21, 0x28, 0x26, 0x2a, 0x00, 0x00, 0xf7}, api.OK)
	checkAll(t, []byte{0x71, 0x60, 0x8d, 0x21, 0x28, 0x26, 0x2a, 0x00, 0x00, 0xf7}, l, api.OK)
	checkJoin(t, nil, nil, api.OK)
	checkJoin(t, []api.Instr{}, nil, api.OK)
	pick := random(3)
	for n := range 300 {
		var l []api.Instr
		var want []byte
		for range n {
			x := randomInstr(pick)
			l, want = append(l, x), append(want, reference(x.Fn, int64(x.Arg))...)
		}
		checkJoin(t, l, want, api.OK)
		checkAll(t, want, l, api.OK)
	}
}

// TestJoinLong has lists whose bytes are as many as may be, and more.
func TestJoinLong(t *testing.T) {
	one := api.Instr{Fn: api.FnLdc, Arg: 7}
	two := api.Instr{Fn: api.FnLdc, Arg: -7}
	eight := api.Instr{Fn: api.FnLdc, Arg: least}
	bad := api.Instr{Fn: api.FnNfix}
	eights := []byte{0x27, 0x2f, 0x2f, 0x2f, 0x2f, 0x2f, 0x6f, 0x40}
	for _, x := range []struct {
		l    []api.Instr
		want []byte
	}{
		{repeated(32767, one), bytes.Repeat([]byte{0x47}, 32767)},
		{repeated(32768, one), bytes.Repeat([]byte{0x47}, 32768)},
		{repeated(16384, two), bytes.Repeat([]byte{0x60, 0x49}, 16384)},
		{repeated(4096, eight), bytes.Repeat(eights, 4096)},
	} {
		checkJoin(t, x.l, x.want, api.OK)
		checkAll(t, x.want, x.l, api.OK)
	}
	for _, l := range [][]api.Instr{
		repeated(32769, one),
		repeated(65536, one),
		repeated(131072, one),
		append(repeated(32767, one), two),
		append(repeated(4096, eight), one),
		append([]api.Instr{one}, repeated(4096, eight)...),
		repeated(4097, eight),
		repeated(100000, eight),
	} {
		checkJoin(t, l, nil, api.ErrLong)
		checkJoin(t, append(slices.Clone(l), bad), nil, api.ErrArg) // ErrArg is named first
		checkJoin(t, append([]api.Instr{bad}, l...), nil, api.ErrArg)
	}
}

func TestAll(t *testing.T) {
	ldc := func(v int32) api.Instr { return api.Instr{Fn: api.FnLdc, Arg: v} }
	zeros := func(n int) []byte { return bytes.Repeat([]byte{0x20}, n) }
	for _, x := range []struct {
		b []byte
		l []api.Instr
		e api.Errno
	}{
		{[]byte{}, nil, api.OK},
		{[]byte{0x20}, nil, api.ErrShort},
		{zeros(15), nil, api.ErrShort},
		{zeros(16), nil, api.ErrLong},
		{zeros(17), nil, api.ErrLong},
		{slices.Concat([]byte{0x41}, zeros(15)), nil, api.ErrShort},
		{slices.Concat([]byte{0x41}, zeros(16)), nil, api.ErrLong},
		{slices.Concat([]byte{0x41}, zeros(16), []byte{0x42}), nil, api.ErrLong},
		{slices.Concat([]byte{0x41}, zeros(16), []byte{0x42, 0x20}), nil, api.ErrLong}, // the first of two errors
		{slices.Concat([]byte{0x41}, zeros(15), []byte{0x42}), []api.Instr{ldc(1), ldc(2)}, api.OK},
		{slices.Concat(zeros(15), []byte{0x41}, zeros(15), []byte{0x42}), []api.Instr{ldc(1), ldc(2)}, api.OK},
		{[]byte{0x2f, 0x41, 0x42, 0x60, 0x43, 0x44}, []api.Instr{ldc(241), ldc(2), ldc(-13), ldc(4)}, api.OK}, // the register is 0 after each
		{[]byte{0x41, 0x42, 0x43, 0x61}, nil, api.ErrShort},
		// Sequences of the greatest length, and one more.
		{bytes.Repeat([]byte{0x41}, 32768), repeated(32768, ldc(1)), api.OK},
		{bytes.Repeat([]byte{0x41}, 32769), nil, api.ErrLong},
		{bytes.Repeat(slices.Concat(zeros(15), []byte{0x41}), 2048), repeated(2048, ldc(1)), api.OK},
		{append(bytes.Repeat([]byte{0x41}, 32767), 0x20), nil, api.ErrShort},
		{append(bytes.Repeat([]byte{0x41}, 32768), 0x20), nil, api.ErrLong},
		{zeros(32768), nil, api.ErrLong},
		{bytes.Repeat([]byte{0x41}, 1<<17), nil, api.ErrLong},
	} {
		checkAll(t, x.b, x.l, x.e)
	}
}

// TestAllReference decodes random sequences, with and without errors in them.
func TestAllReference(t *testing.T) {
	pick := random(5)
	for range 5000 {
		b := make([]byte, pick()>>5%200)
		often := 2 + pick()>>6%30
		for i := range b {
			b[i] = byte(pick() >> 6)
			if pick()>>7%often != 0 && often > 4 {
				b[i] = prefixes[pick()>>8%2]<<4 | b[i]&15
			}
		}
		l, e := executeAll(b)
		checkAll(t, b, l, e)
		if e != api.OK {
			continue
		}
		again, e := code.Join(l)
		if e != api.OK || len(again) > len(b) {
			t.Fatalf("%x: %x, %d", b, again, e)
		}
		checkAll(t, again, l, api.OK)
	}
}

// TestResults changes bytes and instructions that were returned, with their capacity: no later result changes.
func TestResults(t *testing.T) {
	x := api.Instr{Fn: api.FnLdc, Arg: 0x1234}
	spoil := func(b []byte) {
		b = b[:cap(b)]
		for i := range b {
			b[i] ^= 0xff
		}
	}
	for range 3 {
		put, e := code.Put(x)
		pad, e2 := code.Pad(x, 6)
		join, e3 := code.Join([]api.Instr{x, x})
		if e != api.OK || e2 != api.OK || e3 != api.OK {
			t.Fatal(e, e2, e3)
		}
		spoil(put)
		if !bytes.Equal(pad, []byte{0x20, 0x20, 0x21, 0x22, 0x23, 0x44}) {
			t.Errorf("%x", pad)
		}
		spoil(pad)
		if !bytes.Equal(join, []byte{0x21, 0x22, 0x23, 0x44, 0x21, 0x22, 0x23, 0x44}) {
			t.Errorf("%x", join)
		}
		spoil(join)
		checkPut(t, x, []byte{0x21, 0x22, 0x23, 0x44})
		l, e := code.All([]byte{0x41, 0x42})
		k, e2 := code.All([]byte{0x41, 0x42})
		if e != api.OK || e2 != api.OK || len(l) != 2 {
			t.Fatal(l, e, e2)
		}
		l = l[:cap(l)]
		for i := range l {
			l[i] = x
		}
		if !slices.Equal(k, []api.Instr{{Fn: api.FnLdc, Arg: 1}, {Fn: api.FnLdc, Arg: 2}}) {
			t.Error(k)
		}
	}
}

// TestArguments checks that arguments are not changed, that results do not change with them, and that their capacity is not read.
func TestArguments(t *testing.T) {
	b := []byte{0x41, 0x20, 0x42, 0x60, 0x43, 0x44}
	kept := slices.Clone(b)
	l, e := code.All(b[:5])
	if e != api.OK || len(l) != 3 {
		t.Fatal(l, e)
	}
	checkGet(t, b[3:4], api.Instr{}, 0, api.ErrShort)
	checkAll(t, b[:2], nil, api.ErrShort)
	checkAll(t, b[:0], nil, api.OK)
	if !bytes.Equal(b, kept) {
		t.Errorf("%x", b)
	}
	clear(b)
	if !slices.Equal(l, []api.Instr{{Fn: api.FnLdc, Arg: 1}, {Fn: api.FnLdc, Arg: 2}, {Fn: api.FnLdc, Arg: -13}}) {
		t.Error(l)
	}
	before := slices.Clone(l)
	joined, e := code.Join(l[:2])
	if e != api.OK || !slices.Equal(l, before) {
		t.Error(l, e)
	}
	clear(l)
	if !bytes.Equal(joined, []byte{0x41, 0x42}) {
		t.Errorf("%x", joined)
	}
	many := bytes.Repeat([]byte{0x41}, 40000)
	checkAll(t, many[:32768], repeated(32768, api.Instr{Fn: api.FnLdc, Arg: 1}), api.OK)
	checkAll(t, many[:32769], nil, api.ErrLong)
}
