package mem_test

import (
	"bytes"
	"math"
	"testing"

	"transputer/api"
	"transputer/mem"
)

// first is the lowest address.
const first = api.MinInt

// sizes are the least and the greatest size, those next to them, and others.
var sizes = []int{1024, 1028, 4096, 32768, 65532, 65536}

// random returns numbers in a fixed order without a pattern.
func random(seed uint32) func(n int) int {
	return func(n int) int {
		seed = seed*1664525 + 1013904223
		return int((seed>>8)^seed<<24>>1) % n
	}
}

// pattern returns n bytes of which neighbours differ, and which do not repeat with a power of two.
func pattern(n int) []byte {
	b := make([]byte, n)
	for i := range b {
		b[i] = byte(i%251 + i/251 + 1)
	}
	return b
}

// made returns a memory with these bytes.
func made(t *testing.T, b []byte) *mem.Mem {
	t.Helper()
	m, e := mem.From(b)
	if m == nil || e != api.OK {
		t.Fatalf("From of %d bytes: %v, %d", len(b), m, e)
	}
	return m
}

// holds checks that a memory has these bytes, by Bytes, Size and Read.
func holds(t *testing.T, m *mem.Mem, want []byte) {
	t.Helper()
	if m.Size() != len(want) {
		t.Fatalf("size %d, want %d", m.Size(), len(want))
	}
	got := m.Bytes()
	if !bytes.Equal(got, want) {
		i := 0
		for i < len(got) && i < len(want) && got[i] == want[i] {
			i++
		}
		t.Fatalf("the bytes (%d) differ from those that are wanted (%d) at %d", len(got), len(want), i)
	}
	if b, e := m.Read(first, len(want)); !bytes.Equal(b, want) || e != api.OK {
		t.Fatalf("Read of all bytes: %d bytes, error %d", len(b), e)
	}
}

// refuses checks that a memory neither returns nor stores a byte or a word at an address.
func refuses(t *testing.T, m *mem.Mem, at int32, want api.Errno) {
	t.Helper()
	if v, e := m.Byte(at); v != 0 || e != want {
		t.Error("Byte:", m.Size(), at, v, e)
	}
	if v, e := m.Word(at); v != 0 || e != want {
		t.Error("Word:", m.Size(), at, v, e)
	}
	if e := m.SetByte(at, 1); e != want {
		t.Error("SetByte:", m.Size(), at, e)
	}
	if e := m.SetWord(at, 1); e != want {
		t.Error("SetWord:", m.Size(), at, e)
	}
}

// address returns the address of the byte with an index, for indexes outside of a memory too.
func address(index int) int32 { return int32(int64(first) + int64(index)) }

// outside returns words that are not addresses of a memory of a size.
func outside(size int) []int32 {
	return []int32{address(size), address(size + 1), address(size + 3), address(size + 4), address(size + 65536), first / 2,
		-65536, -4, -3, -1, 0, 1, 4, int32(size), math.MaxInt32 - 3, math.MaxInt32}
}

func TestNew(t *testing.T) {
	for _, size := range sizes {
		m, e := mem.New(size)
		if m == nil || e != api.OK {
			t.Fatal(size, m, e)
		}
		holds(t, m, make([]byte, size))
	}
	for n := 1000; n < 1100; n++ {
		m, e := mem.New(n)
		if ok := n >= 1024 && n%4 == 0; ok != (m != nil) || ok != (e == api.OK) || !ok && e != api.ErrArg {
			t.Error(n, m != nil, e)
		}
	}
	for _, n := range []int{0, 1, 2, 3, 4, -1, -4, -1024, -65536, 65533, 65534, 65535, 65537, 65538, 65539, 65540, 131072, 1<<32 + 1024, 1 << 31,
		math.MaxInt, math.MaxInt - 3, math.MinInt, math.MinInt + 1024} {
		if m, e := mem.New(n); m != nil || e != api.ErrArg {
			t.Error(n, m != nil, e)
		}
	}
}

func TestFrom(t *testing.T) {
	for _, size := range sizes {
		b := pattern(size)
		m := made(t, b)
		holds(t, m, b)
		for i, want := range b {
			if got, e := m.Byte(address(i)); got != want || e != api.OK {
				t.Fatal(size, i, got, want, e)
			}
		}
	}
	if m, e := mem.From(nil); m != nil || e != api.ErrArg {
		t.Error("From of nothing:", m != nil, e)
	}
	for _, n := range []int{0, 1, 4, 1020, 1022, 1023, 1025, 1026, 1027, 65533, 65535, 65537, 65540, 131072} {
		if m, e := mem.From(make([]byte, n, n+4096)); m != nil || e != api.ErrArg {
			t.Error(n, m != nil, e)
		}
	}
}

// TestExamples has the examples of the chapter.
func TestExamples(t *testing.T) {
	m := made(t, make([]byte, 1024))
	if e := m.SetWord(first+6, 100); e != api.OK {
		t.Error(e)
	}
	for at, want := range map[int32]byte{first + 4: 100, first + 5: 0, first + 6: 0, first + 7: 0} {
		if b, e := m.Byte(at); b != want || e != api.OK {
			t.Error(at, b, e)
		}
	}
	if w, e := m.Word(first + 7); w != 100 || e != api.OK {
		t.Error(w, e)
	}
	if e := m.SetByte(first+5, 2); e != api.OK {
		t.Error(e)
	}
	if w, e := m.Word(first + 4); w != 612 || e != api.OK {
		t.Error(w, e)
	}
	if e := m.Move(first+1, first+4, 2); e != api.OK {
		t.Error(e)
	}
	if b, e := m.Read(first, 4); !bytes.Equal(b, []byte{0, 100, 2, 0}) || e != api.OK {
		t.Error(b, e)
	}
	m = made(t, make([]byte, 1024))
	m.SetByte(first+5, 1)
	if w, e := m.Word(first + 7); w != 256 || e != api.OK {
		t.Error(w, e)
	}
	m = made(t, append([]byte{1, 2, 3}, make([]byte, 1021)...))
	if e := m.Move(first+1, first, 2); e != api.OK {
		t.Error(e)
	}
	holds(t, m, append([]byte{1, 1, 2}, make([]byte, 1021)...))
}

// TestBytes stores a byte at each address in turn, and compares all bytes.
func TestBytes(t *testing.T) {
	for _, size := range []int{1024, 1028} {
		b := pattern(size)
		m := made(t, b)
		for i := range b {
			b[i] ^= 0xff
			if e := m.SetByte(address(i), b[i]); e != api.OK {
				t.Fatal(i, e)
			}
			holds(t, m, b)
			if v, e := m.Byte(address(i)); v != b[i] || e != api.OK {
				t.Fatal(i, v, e)
			}
		}
	}
}

// TestEnds reaches for the first and the last bytes and words of memories of all sizes, and for what is next to them.
func TestEnds(t *testing.T) {
	for _, size := range sizes {
		b := pattern(size)
		m := made(t, b)
		for _, i := range []int{0, 1, 3, 4, 5, size - 5, size - 4, size - 3, size - 2, size - 1} {
			b[i] = byte(i) ^ 0xa5
			if e := m.SetByte(address(i), b[i]); e != api.OK {
				t.Error(size, i, e)
			}
			w := b[i&^3:]
			want := int32(uint32(w[0]) + uint32(w[1])*256 + uint32(w[2])*65536 + uint32(w[3])*16777216)
			if v, e := m.Word(address(i)); v != want || e != api.OK {
				t.Error(size, i, v, want, e)
			}
		}
		holds(t, m, b)
		for _, at := range outside(size) {
			refuses(t, m, at, api.ErrRange)
		}
		holds(t, m, b)
	}
}

// TestWords stores words at each address of a memory, multiples of 4 or not.
func TestWords(t *testing.T) {
	words := []struct {
		v int32
		b [4]byte
	}{
		{0x04030201, [4]byte{1, 2, 3, 4}},
		{0, [4]byte{0, 0, 0, 0}},
		{-1, [4]byte{255, 255, 255, 255}},
		{-2, [4]byte{254, 255, 255, 255}},
		{math.MinInt32, [4]byte{0, 0, 0, 0x80}},
		{math.MaxInt32, [4]byte{255, 255, 255, 0x7f}},
		{-2023406815, [4]byte{0x21, 0x43, 0x65, 0x87}},
		{0x00800000, [4]byte{0, 0, 0x80, 0}},
		{0x00008000, [4]byte{0, 0x80, 0, 0}},
		{128, [4]byte{0x80, 0, 0, 0}},
		{-129, [4]byte{0x7f, 255, 255, 255}},
	}
	b := pattern(1024)
	m := made(t, b)
	for i := range b {
		w := words[i%len(words)]
		copy(b[i-i%4:], w.b[:])
		if e := m.SetWord(address(i), w.v); e != api.OK {
			t.Fatal(i, e)
		}
		holds(t, m, b)
		for k := range 4 {
			if v, e := m.Word(address(i - i%4 + k)); v != w.v || e != api.OK {
				t.Fatal(i, k, v, w.v, e)
			}
		}
	}
}

// blocks returns indexes and lengths of blocks at the ends of a memory and inside, within it or not.
func blocks(size int) (indexes []int, lengths []int) {
	return []int{0, 1, 2, 4, 5, size / 2, size - 5, size - 4, size - 1, size, size + 1, 1 << 31, 1<<32 - 4, 1<<32 - 1},
		[]int{0, 1, 2, 3, 4, 5, size / 2, size/2 + 1, size - 5, size - 4, size - 1, size, size + 1, 2 * size}
}

func TestRead(t *testing.T) {
	for _, size := range []int{1024, 65536} {
		b := pattern(size)
		m := made(t, b)
		indexes, lengths := blocks(size)
		lengths = append(lengths, 1<<31-1, 1<<31, 1<<32-1, 1<<32, 1<<32+1, math.MaxInt)
		for _, i := range indexes {
			for _, n := range lengths {
				got, e := m.Read(address(i), n)
				switch {
				case n == 0:
					if len(got) != 0 || e != api.OK {
						t.Error("no bytes:", i, len(got), e)
					}
				case i < size && n <= size-i:
					if !bytes.Equal(got, b[i:i+n]) || e != api.OK {
						t.Error(i, n, len(got), e)
					}
				default:
					if len(got) != 0 || e != api.ErrRange {
						t.Error("outside:", i, n, len(got), e)
					}
				}
			}
			for _, n := range []int{-1, -2, -4, -1024, -1 << 31, -1<<31 - 1, -1 << 32, -1<<32 + 4, math.MinInt} {
				if got, e := m.Read(address(i), n); len(got) != 0 || e != api.ErrArg {
					t.Error(i, n, len(got), e)
				}
			}
		}
		holds(t, m, b)
	}
}

func TestWrite(t *testing.T) {
	for _, size := range []int{1024, 1028} {
		indexes, lengths := blocks(size)
		for _, i := range indexes {
			for _, n := range lengths {
				b := pattern(size)
				m := made(t, b)
				stored := bytes.Repeat([]byte{0xee, 0, 0xcc}, n)[:n] // with a capacity behind its length
				want := api.OK
				if n > 0 && (i >= size || n > size-i) {
					want = api.ErrRange
				} else if n > 0 {
					copy(b[i:], stored)
				}
				if e := m.Write(address(i), stored); e != want {
					t.Error(i, n, e, want)
				}
				holds(t, m, b)
			}
			m := made(t, pattern(size))
			if e := m.Write(address(i), nil); e != api.OK {
				t.Error(i, e)
			}
			holds(t, m, pattern(size))
		}
	}
}

func TestMove(t *testing.T) {
	const size = 1024
	indexes, lengths := blocks(size)
	lengths = append(lengths, 1<<31-1, 1<<31, 1<<32-1024, 1<<32-4, 1<<32-1)
	for _, to := range indexes {
		for _, from := range indexes {
			for _, n := range lengths {
				b := pattern(size)
				m := made(t, b)
				inside := to < size && n <= size-to && from < size && n <= size-from
				want := api.OK
				if n > 0 && !inside {
					want = api.ErrRange
				} else if n > 0 {
					read := append([]byte(nil), b[from:from+n]...)
					copy(b[to:], read)
				}
				if e := m.Move(address(to), address(from), int32(uint32(n))); e != want {
					t.Error(to, from, n, e, want)
				}
				holds(t, m, b)
			}
		}
	}
}

// TestMoveReads compares Move with a Read and a Write, for blocks that overlap by any number of bytes, in both directions.
func TestMoveReads(t *testing.T) {
	for n := range 40 {
		for shift := -44; shift <= 44; shift++ {
			moved, written := made(t, pattern(1024)), made(t, pattern(1024))
			from := address(100)
			to := mem.Bsub(from, int32(shift))
			if e := moved.Move(to, from, int32(n)); e != api.OK {
				t.Fatal(n, shift, e)
			}
			b, e := written.Read(from, n)
			if e != api.OK || len(b) != n {
				t.Fatal(n, shift, len(b), e)
			}
			if e := written.Write(to, b); e != api.OK {
				t.Fatal(n, shift, e)
			}
			holds(t, moved, written.Bytes())
			if got, e := moved.Read(to, n); !bytes.Equal(got, b) || e != api.OK {
				t.Fatal(n, shift, e)
			}
		}
	}
}

// TestLast compares a memory with a slice of bytes while much is stored, inside of it and outside.
func TestLast(t *testing.T) {
	for _, size := range []int{1024, 65536} {
		pick := random(uint32(size))
		m, e := mem.New(size)
		if e != api.OK {
			t.Fatal(e)
		}
		want := make([]byte, size)
		for step := range 20000 {
			i, n := pick(size+8), pick(24)
			inside := n == 0 || i < size && n <= size-i
			var got api.Errno
			switch pick(4) {
			case 0:
				n, inside = 1, i < size
				v := byte(pick(256))
				if got = m.SetByte(address(i), v); inside {
					want[i] = v
				}
			case 1:
				n, inside = 1, i < size
				v := uint32(pick(1<<31-1)) * 3
				if got = m.SetWord(address(i), int32(v)); inside {
					copy(want[i&^3:], []byte{byte(v), byte(v >> 8), byte(v >> 16), byte(v >> 24)})
				}
			case 2:
				b := make([]byte, n)
				for k := range b {
					b[k] = byte(pick(256))
				}
				if got = m.Write(address(i), b); inside && n > 0 {
					copy(want[i:], b)
				}
			case 3:
				from := pick(size + 8)
				inside = inside && (n == 0 || from < size && n <= size-from)
				if got = m.Move(address(i), address(from), int32(n)); inside && n > 0 {
					copy(want[i:], append([]byte(nil), want[from:from+n]...))
				}
			}
			if inside != (got == api.OK) || !inside && got != api.ErrRange {
				t.Fatal(step, i, n, got)
			}
			if step%64 == 0 {
				holds(t, m, want)
			}
		}
		holds(t, m, want)
	}
}

// TestArguments changes the bytes that were passed to a memory, and those that it returned, with their capacity.
func TestArguments(t *testing.T) {
	spoil := func(b []byte) {
		for i := range b {
			b[i] ^= 0xff
		}
		b = b[:cap(b)]
		for i := range b {
			b[i] = 0x77
		}
	}
	all := append(pattern(1024), 1, 2, 3)
	m := made(t, all[:1024])
	if !bytes.Equal(all, append(pattern(1024), 1, 2, 3)) {
		t.Error("From changed its argument")
	}
	spoil(all)
	holds(t, m, pattern(1024))
	b := []byte{9, 8, 7, 6, 5}
	if e := m.Write(first+2, b[:3]); e != api.OK || !bytes.Equal(b, []byte{9, 8, 7, 6, 5}) {
		t.Error(b, e)
	}
	spoil(b)
	want := pattern(1024)
	copy(want[2:], []byte{9, 8, 7})
	holds(t, m, want)
	spoil(m.Bytes())
	holds(t, m, want)
	for _, n := range []int{0, 1, 5, 1023, 1024} {
		read, e := m.Read(first, n)
		if e != api.OK {
			t.Error(n, e)
		}
		spoil(read)
		holds(t, m, want)
	}
	read, e := m.Read(first, 8)
	before := append([]byte(nil), read...)
	all = m.Bytes()
	if m.SetWord(first, 0x12345678); e != api.OK || !bytes.Equal(read, before) || !bytes.Equal(all, want) {
		t.Error("a result changed with the memory", e)
	}
}

func TestCopy(t *testing.T) {
	for _, size := range sizes {
		m := made(t, pattern(size))
		c := m.Copy()
		if c == nil || c == m {
			t.Fatal(size, c)
		}
		holds(t, c, pattern(size))
		mine, its := pattern(size), pattern(size)
		mine[0], its[size-1], its[4] = 200, 201, 202
		m.SetByte(first, 200)
		c.SetByte(address(size-1), 201)
		c.SetByte(first+4, 202)
		holds(t, m, mine)
		holds(t, c, its)
		d := c.Copy()
		d.SetWord(first, -1)
		c.Move(first+8, first, 8)
		copy(its[8:], append([]byte(nil), its[:8]...))
		holds(t, m, mine)
		holds(t, c, its)
		copy(its[8:], pattern(16)[8:])
		copy(its, []byte{255, 255, 255, 255})
		holds(t, d, its)
	}
}

// TestNone calls all methods of memories that are as a nil one.
func TestNone(t *testing.T) {
	m := made(t, pattern(1024))
	value := *m
	for i, none := range []*mem.Mem{nil, {}, new(mem.Mem), &value} {
		if n := none.Size(); n != 0 {
			t.Error(i, n)
		}
		if b := none.Bytes(); len(b) != 0 {
			t.Error(i, len(b))
		}
		if c := none.Copy(); c != nil {
			t.Error(i, "copied")
		}
		for _, at := range []int32{first, first + 1, first + 1024, -1, 0, 5, math.MaxInt32} {
			refuses(t, none, at, api.ErrNil)
			for _, n := range []int{-1, 0, 1, 1024, 1025, math.MinInt, math.MaxInt} {
				if b, e := none.Read(at, n); len(b) != 0 || e != api.ErrNil {
					t.Error(i, at, n, len(b), e)
				}
				if e := none.Move(at, first, int32(n)); e != api.ErrNil {
					t.Error(i, at, n, e)
				}
			}
			for _, b := range [][]byte{nil, {}, {1}, pattern(1025)} {
				if e := none.Write(at, b); e != api.ErrNil {
					t.Error(i, at, len(b), e)
				}
			}
		}
	}
	holds(t, m, pattern(1024))
}

func TestAddresses(t *testing.T) {
	const most, least int32 = math.MaxInt32, math.MinInt32
	for _, x := range []struct{ base, n, bsub, wsub int32 }{
		{8, -1, 7, 4},
		{0, 0, 0, 0},
		{-1, 1, 0, 3},
		{least, 3, least + 3, least + 12},
		{most, 1, least, least + 3},
		{least, -1, most, most - 3},
		{0, 1 << 30, 1 << 30, 0},
		{5, 1 << 29, 1<<29 + 5, least + 5},
		{7, most, least + 6, 3},
		{7, least, least + 7, 7},
		{-100, 0x40000001, 0x40000001 - 100, -96},
	} {
		if b, w := mem.Bsub(x.base, x.n), mem.Wsub(x.base, x.n); b != x.bsub || w != x.wsub {
			t.Error(x, b, w)
		}
	}
	for _, x := range []struct{ n, bytes int32 }{
		{0, 0}, {1, 4}, {-1, -4}, {0x40000001, 4}, {1 << 29, least}, {1<<29 - 1, most - 3}, {most, -4}, {least, 0}, {-1 << 29, least}, {-3, -12},
	} {
		if b := mem.Bcnt(x.n); b != x.bytes {
			t.Error(x, b)
		}
	}
	for _, x := range []struct{ at, words, rest int32 }{
		{-3, -1, 1}, {0, 0, 0}, {1, 0, 1}, {3, 0, 3}, {4, 1, 0}, {-1, -1, 3}, {-4, -1, 0}, {-5, -2, 3},
		{most, 1<<29 - 1, 3}, {least, -1 << 29, 0}, {least + 7, -1<<29 + 1, 3},
	} {
		if w, r := mem.Wcnt(x.at); w != x.words || r != x.rest {
			t.Error(x, w, r)
		}
	}
}

// TestQuotient checks Wcnt by its definition, and P3.5.
func TestQuotient(t *testing.T) {
	bases := []int32{math.MinInt32, -5, -1, 0, 1, 6, 1 << 30, math.MaxInt32}
	pick := random(7)
	ats := []int32{math.MinInt32, math.MinInt32 + 1, math.MaxInt32 - 1, math.MaxInt32}
	for i := int32(-20); i <= 20; i++ {
		ats = append(ats, i, i+1<<29, i-1<<29, i-1<<30, i+1<<30)
	}
	for range 1000 {
		ats = append(ats, int32(pick(math.MaxInt32)), -int32(pick(math.MaxInt32)))
	}
	for _, at := range ats {
		words, rest := mem.Wcnt(at)
		if int64(words)*4+int64(rest) != int64(at) || rest < 0 || rest > 3 {
			t.Error(at, words, rest)
		}
		for _, base := range bases {
			if got, want := mem.Bsub(mem.Wsub(base, words), rest), mem.Bsub(base, at); got != want {
				t.Error(base, at, got, want)
			}
			if mem.Wsub(base, at) != mem.Bsub(base, mem.Bcnt(at)) {
				t.Error(base, at)
			}
		}
	}
}
