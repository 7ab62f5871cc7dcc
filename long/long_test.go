package long_test

import (
	"math/big"
	"testing"

	"transputer/long"
)

const (
	most  int32 = 1<<31 - 1
	least int32 = -1 << 31
)

// edges are the words next to which something changes: signs, halves, carries, the numbers of places.
func edges() []int32 {
	l := []int32{least, least + 1, -1 << 30, 1 << 30, most - 1, most, 123456789, -123456789}
	for _, v := range []int32{0, 2, 7, 31, 32, 63, 64, 255, 65535, 65536} {
		l = append(l, v, -v, v+1, -v-1)
	}
	return l
}

// words returns n words in a fixed order without a pattern, among them many edges.
func words(seed uint32, n int) []int32 {
	l, e := make([]int32, n), edges()
	for i := range l {
		seed = seed*1664525 + 1013904223
		if k := seed >> 16; k%3 == 0 {
			l[i] = e[int(k/3)%len(e)]
		} else {
			l[i] = int32(seed ^ seed<<13)
		}
	}
	return l
}

// triples calls f with all triples of edges, and with others.
func triples(f func(a, b, c int32)) {
	l := edges()
	for _, a := range l {
		for _, b := range l {
			for _, c := range l {
				f(a, b, c)
			}
		}
	}
	l = words(1, 30000)
	for i := 0; i < len(l); i += 3 {
		f(l[i], l[i+1], l[i+2])
	}
}

func whole(v int32) *big.Int { return big.NewInt(int64(v)) }

func power(n int64) *big.Int { return new(big.Int).Lsh(big.NewInt(1), uint(n)) }

// unsigned is the unsigned value of w.
func unsigned(w int32) *big.Int {
	if w < 0 {
		return new(big.Int).Add(whole(w), power(32))
	}
	return whole(w)
}

// wordOf is the word that is equal to x modulo 2^32.
func wordOf(x *big.Int) int32 {
	r := new(big.Int).Mod(x, power(32)) // not negative
	if r.Cmp(power(31)) >= 0 {
		r.Sub(r, power(32))
	}
	return int32(r.Int64())
}

// number is the integer that words are, the lowest one first.
func number(words ...int32) *big.Int {
	x := new(big.Int)
	for i, w := range words {
		x.Add(x, new(big.Int).Lsh(unsigned(w), uint(32*i)))
	}
	return x
}

// halves are the words of x modulo 2^64.
func halves(x *big.Int) (hi, lo int32) {
	return wordOf(new(big.Int).Rsh(x, 32)), wordOf(x)
}

func bit(w int32) *big.Int { return big.NewInt(int64(unsigned(w).Bit(0))) }

func sum(x, y, z *big.Int) *big.Int {
	s := new(big.Int).Add(x, y)
	return s.Add(s, z)
}

func diff(x, y, z *big.Int) *big.Int {
	s := new(big.Int).Sub(x, y)
	return s.Sub(s, z)
}

// result is what a call returns, in its order.
type result struct {
	x, y int32
	over bool
}

type call func(a, b, c int32) result

// checked makes a call of a function with one word as its result, and over.
func checked(f func(a, b, c int32) (int32, bool)) call {
	return func(a, b, c int32) result {
		r, over := f(a, b, c)
		return result{r, 0, over}
	}
}

// double makes a call of a function with two words as its results.
func double(f func(a, b, c int32) (int32, int32)) call {
	return func(a, b, c int32) result {
		x, y := f(a, b, c)
		return result{x, y, false}
	}
}

func div(hi, lo, d int32) result {
	q, r, over := long.Div(hi, lo, d)
	return result{q, r, over}
}

type want struct {
	a, b, c int32
	is      result
}

func check(t *testing.T, name string, f call, l []want) {
	t.Helper()
	for _, w := range l {
		if r := f(w.a, w.b, w.c); r != w.is {
			t.Errorf("%s(%d, %d, %d): %v; want %v", name, w.a, w.b, w.c, r, w.is)
		}
	}
}

// same checks f for all triples against what it should be.
func same(t *testing.T, name string, f, should call) {
	t.Helper()
	triples(func(a, b, c int32) {
		check(t, name, f, []want{{a, b, c, should(a, b, c)}})
	})
}

// fitted is the word that s is modulo 2^32, and whether s is no word.
func fitted(s *big.Int) result {
	r := wordOf(s)
	return result{r, 0, s.Cmp(whole(r)) != 0}
}

// P2.1
func TestAddSub(t *testing.T) {
	check(t, "Add", checked(long.Add), []want{
		{1, 2, 3, result{4, 0, false}}, {1, 2, 2, result{3, 0, false}}, {1, 2, -1, result{4, 0, false}}, {1, 2, least, result{3, 0, false}},
		{most, 1, 0, result{least, 0, true}}, {most, 0, 1, result{least, 0, true}}, {most, 0, 0, result{most, 0, false}}, {most, 0, 2, result{most, 0, false}},
		{most, -1, 1, result{most, 0, false}}, {-1, least, 0, result{most, 0, true}}, {-1, least, 1, result{least, 0, false}},
		{least, least, 1, result{1, 0, true}}, {most, most, 1, result{-1, 0, true}}, {least, most, most, result{0, 0, false}},
	})
	check(t, "Sub", checked(long.Sub), []want{
		{5, 7, 1, result{-3, 0, false}}, {5, 7, 0, result{-2, 0, false}}, {5, 7, 6, result{-2, 0, false}}, {5, 7, -1, result{-3, 0, false}},
		{least, 0, 1, result{most, 0, true}}, {least, 0, 0, result{least, 0, false}}, {least, 0, 6, result{least, 0, false}}, {least, 1, 0, result{most, 0, true}},
		{0, least, 0, result{least, 0, true}}, {0, least, 1, result{most, 0, false}}, {-1, least, 0, result{most, 0, false}},
		{most, -1, 0, result{least, 0, true}}, {most, -1, 1, result{most, 0, false}}, {most, least, 0, result{-1, 0, true}}, {least, most, 1, result{0, 0, true}},
	})

	same(t, "Add", checked(long.Add), func(a, b, c int32) result { return fitted(sum(whole(a), whole(b), bit(c))) })
	same(t, "Sub", checked(long.Sub), func(a, b, c int32) result { return fitted(diff(whole(a), whole(b), bit(c))) })
}

// P2.1
func TestWidths(t *testing.T) {
	for _, c := range []struct{ v, hi int32 }{{7, 0}, {-3, -1}, {0, 0}, {1, 0}, {-1, -1}, {most, 0}, {least, -1}} {
		if lo, hi := long.Xdble(c.v); lo != c.v || hi != c.hi {
			t.Errorf("Xdble(%d): %d, %d", c.v, lo, hi)
		}
		for _, hi := range edges() {
			if r, over := long.Csngl(c.v, hi); r != c.v || over != (hi != c.hi) {
				t.Errorf("Csngl(%d, %d): %d, %v", c.v, hi, r, over)
			}
		}
	}
	for _, v := range words(2, 5000) {
		if lo, hi := long.Xdble(v); lo != v || (hi == -1) != (v < 0) || (hi == 0) != (v >= 0) {
			t.Errorf("Xdble(%d): %d, %d", v, lo, hi)
		}
	}
	triples(func(lo, hi, _ int32) {
		_, should := long.Xdble(lo)
		if r, over := long.Csngl(lo, hi); r != lo || over != (hi != should) {
			t.Errorf("Csngl(%d, %d): %d, %v", lo, hi, r, over)
		}
	})
}

// P2.2
func TestSumDiff(t *testing.T) {
	check(t, "Sum", double(long.Sum), []want{
		{-1, 1, 0, result{0, 1, false}}, {-1, -1, 1, result{-1, 1, false}}, {-1, -1, 0, result{-2, 1, false}}, {-1, 0, 1, result{0, 1, false}}, {-1, 0, 2, result{-1, 0, false}},
		{-1, 0, -2, result{-1, 0, false}}, {1, 2, 1, result{4, 0, false}}, {1, 2, 7, result{4, 0, false}}, {most, 1, 0, result{least, 0, false}}, {least, least, 0, result{0, 1, false}},
		{least, most, 0, result{-1, 0, false}}, {least, most, 1, result{0, 1, false}}, {0, 0, 0, result{0, 0, false}},
	})
	check(t, "Diff", double(long.Diff), []want{
		{0, 1, 0, result{-1, 1, false}}, {5, 3, 1, result{1, 0, false}}, {5, 3, 2, result{2, 0, false}}, {5, 5, 0, result{0, 0, false}}, {5, 5, 1, result{-1, 1, false}},
		{5, 5, -2, result{0, 0, false}}, {0, 0, -1, result{-1, 1, false}}, {0, -1, 0, result{1, 1, false}}, {0, -1, 1, result{0, 1, false}}, {-1, 0, 1, result{-2, 0, false}},
		{-1, -1, 1, result{-1, 1, false}}, {most, least, 0, result{-1, 1, false}}, {least, most, 0, result{1, 0, false}}, {least, most, 1, result{0, 0, false}},
	})

	same(t, "Sum", double(long.Sum), func(a, b, c int32) result {
		out, lo := halves(sum(unsigned(a), unsigned(b), bit(c)))
		return result{lo, out, false}
	})
	same(t, "Diff", double(long.Diff), func(a, b, c int32) result {
		s := diff(unsigned(a), unsigned(b), bit(c))
		if s.Sign() < 0 {
			return result{wordOf(s), 1, false}
		}
		return result{wordOf(s), 0, false}
	})
}

// P2.2
func TestMul(t *testing.T) {
	check(t, "Mul", double(long.Mul), []want{
		{-1, -1, -1, result{0, -1, false}}, {-1, -1, 0, result{1, -2, false}}, {65536, 65536, 7, result{7, 1, false}}, {65536, 65536, -1, result{-1, 1, false}},
		{0, -1, -1, result{-1, 0, false}}, {-1, 0, 5, result{5, 0, false}}, {3, -1, 0, result{-3, 2, false}}, {6, 7, 8, result{50, 0, false}}, {-1, 1, 1, result{0, 1, false}},
		{least, 2, 0, result{0, 1, false}}, {least, least, 0, result{0, 1 << 30, false}}, {most, 2, 1, result{-1, 0, false}}, {most, 2, 2, result{0, 1, false}}, {0, 0, 0, result{0, 0, false}},
	})

	same(t, "Mul", double(long.Mul), func(a, b, c int32) result {
		x := new(big.Int).Mul(unsigned(a), unsigned(b))
		hi, lo := halves(x.Add(x, unsigned(c)))
		return result{lo, hi, false}
	})
}

// P2.3
func TestDiv(t *testing.T) {
	none := result{0, 0, true}
	check(t, "Div", div, []want{
		{1, 0, 2, result{least, 0, false}}, {0, -1, 10, result{429496729, 5, false}}, {0, 7, 1, result{7, 0, false}}, {0, 7, 9, result{0, 7, false}}, {0, 0, 5, result{0, 0, false}},
		{-2, -1, -1, result{-1, -2, false}}, {5, 0, -1, result{5, 5, false}}, {most, -1, least, result{-1, most, false}}, {1, 1, 2, result{least, 1, false}}, {0, -1, 1, result{-1, 0, false}},
		{2, 0, 2, none}, {3, 0, 2, none}, {1, 0, 1, none}, {-1, -1, -1, none}, {-1, 0, 1, none}, {least, 0, most, none}, {-1, 5, -2, none},
		{0, 7, 0, none}, {0, 0, 0, none}, {5, 7, 0, none}, {-1, -1, 0, none}, {least, 0, 0, none},
	})

	same(t, "Div", div, func(hi, lo, d int32) result {
		if d == 0 {
			return none
		}
		q, r := new(big.Int).QuoRem(number(lo, hi), unsigned(d), new(big.Int))
		if q.Cmp(power(32)) >= 0 {
			return none
		}
		return result{wordOf(q), wordOf(r), false}
	})
}

// P2.4
func TestShifts(t *testing.T) {
	check(t, "Shl", double(long.Shl), []want{
		{5, 6, 0, result{5, 6, false}}, {-5, -6, 0, result{-5, -6, false}}, {0, 3, 1, result{0, 6, false}}, {0, 3, 31, result{1, least, false}}, {4, 6, 31, result{3, 0, false}}, {5, 6, 31, result{least + 3, 0, false}},
		{5, 6, 32, result{6, 0, false}}, {0, 1, 33, result{2, 0, false}}, {0, 1, 63, result{least, 0, false}}, {1, 1, 63, result{least, 0, false}}, {1, 1, 64, result{0, 0, false}},
		{-1, -1, 65, result{0, 0, false}}, {-1, -1, 96, result{0, 0, false}}, {-1, -1, 128, result{0, 0, false}}, {-1, -1, most, result{0, 0, false}},
		{-1, -1, -1, result{0, 0, false}}, {-1, -1, -64, result{0, 0, false}}, {-1, -1, least, result{0, 0, false}}, {-1, -1, 1 << 16, result{0, 0, false}},
	})
	check(t, "Shr", double(long.Shr), []want{
		{5, 6, 0, result{5, 6, false}}, {-5, -6, 0, result{-5, -6, false}}, {0, 6, 1, result{0, 3, false}}, {1, 0, 1, result{0, least, false}}, {-1, 0, 4, result{268435455, -268435456, false}},
		{5, 6, 31, result{0, 10, false}}, {5, 6, 32, result{0, 5, false}}, {-1, 6, 33, result{0, most, false}}, {least, 0, 63, result{0, 1, false}}, {-1, -1, 63, result{0, 1, false}},
		{-1, -1, 64, result{0, 0, false}}, {-1, -1, 65, result{0, 0, false}}, {-1, -1, 96, result{0, 0, false}}, {-1, -1, 128, result{0, 0, false}}, {-1, -1, most, result{0, 0, false}},
		{1, 0, -1, result{0, 0, false}}, {-1, -1, -64, result{0, 0, false}}, {-1, -1, least, result{0, 0, false}}, {-1, -1, 1 << 16, result{0, 0, false}},
	})

	same(t, "Shl", double(long.Shl), shifted((*big.Int).Lsh))
	same(t, "Shr", double(long.Shr), shifted((*big.Int).Rsh))
	for n := range int32(70) { // every number of places, of words that edges does not combine
		l := words(uint32(n), 100)
		for i := 0; i < len(l); i += 2 {
			check(t, "Shl", double(long.Shl), []want{{l[i], l[i+1], n, shifted((*big.Int).Lsh)(l[i], l[i+1], n)}})
			check(t, "Shr", double(long.Shr), []want{{l[i], l[i+1], n, shifted((*big.Int).Rsh)(l[i], l[i+1], n)}})
		}
	}
}

// shifted is a call of a shift in a direction.
func shifted(direction func(z, x *big.Int, n uint) *big.Int) call {
	return func(hi, lo, n int32) result {
		if n < 0 || n >= 64 {
			return result{0, 0, false}
		}
		h, l := halves(direction(new(big.Int), number(lo, hi), uint(n)))
		return result{h, l, false}
	}
}

// P2.4
func TestNorm(t *testing.T) {
	for _, c := range []struct{ hi, lo, h, l, n int32 }{
		{0, 0, 0, 0, 64}, {0, 1, least, 0, 63}, {0, 3, -1 << 30, 0, 62}, {0, most, -2, 0, 33}, {0, least, least, 0, 32}, {0, -1, -1, 0, 32},
		{1, 0, least, 0, 31}, {1, -1, -1, least, 31}, {most, -1, -1, -2, 1}, {1 << 30, 1, least, 2, 1}, {-1, 5, -1, 5, 0}, {least, 0, least, 0, 0},
	} {
		if h, l, n := long.Norm(c.hi, c.lo); h != c.h || l != c.l || n != c.n {
			t.Errorf("Norm(%d, %d): %d, %d, %d", c.hi, c.lo, h, l, n)
		}
	}
	l := words(3, 200)
	for i := 0; i < len(l); i += 2 {
		for k := range uint(65) {
			hi, lo := halves(new(big.Int).Rsh(number(l[i], l[i+1]), k))
			checkNorm(t, hi, lo)
		}
	}
	triples(func(hi, lo, _ int32) { checkNorm(t, hi, lo) })
}

// checkNorm checks Norm by shifting one place at a time.
func checkNorm(t *testing.T, hi, lo int32) {
	t.Helper()
	x, places := number(lo, hi), int32(0)
	for x.Sign() > 0 && x.Bit(63) == 0 {
		x.Lsh(x, 1)
		places++
	}
	if x.Sign() == 0 {
		places = 64
	}
	h, l, n := long.Norm(hi, lo)
	if number(l, h).Cmp(x) != 0 || n != places {
		t.Errorf("Norm(%d, %d): %d, %d, %d", hi, lo, h, l, n)
	}
}

// P2.5
func TestDivInvertsMul(t *testing.T) {
	triples(func(a, d, c int32) {
		if unsigned(c).Cmp(unsigned(d)) >= 0 {
			return
		}
		lo, hi := long.Mul(a, d, c)
		if q, r, over := long.Div(hi, lo, d); q != a || r != c || over {
			t.Errorf("%d times %d plus %d divided: %d, %d, %v", a, d, c, q, r, over)
		}
	})
}

// longNumbers calls f with pairs of numbers of 1 to 7 words, the lowest word first.
func longNumbers(f func(x, y []int32)) {
	for n := 1; n <= 7; n++ {
		l := words(uint32(n), 200*n)
		for i := 0; i < len(l); i += 2 * n {
			f(l[i:i+n], l[i+n:i+2*n])
		}
		alike := make([]int32, n) // a carry runs through all words
		for _, w := range []int32{0, -1, least, most} {
			for i := range alike {
				alike[i] = w
			}
			one := make([]int32, n)
			one[0] = 1
			f(alike, one)
			f(one, alike)
			f(alike, alike)
		}
	}
}

// wordByWord applies f from the lowest word on, and passes on its second result; the last word of what it returns is what is passed on at the end.
func wordByWord(f func(a, b, c int32) (int32, int32), x, y []int32, first int32) []int32 {
	var l []int32
	for i := range x {
		w, next := f(x[i], y[i], first)
		l, first = append(l, w), next
	}
	return append(l, first)
}

// P2.5: a sum of more words.
func TestLongSums(t *testing.T) {
	longNumbers(func(x, y []int32) {
		for _, carry := range []int32{0, 1} {
			s := number(wordByWord(long.Sum, x, y, carry)...)
			if should := sum(number(x...), number(y...), bit(carry)); s.Cmp(should) != 0 {
				t.Errorf("%v + %v + %d: %v", x, y, carry, s)
			}
		}
	})
}

// P2.5: a difference of more words is negative if there is a borrow at the end.
func TestLongDiffs(t *testing.T) {
	longNumbers(func(x, y []int32) {
		for _, borrow := range []int32{0, 1} {
			l := wordByWord(long.Diff, x, y, borrow)
			n := len(x)
			d := diff(number(l[:n]...), new(big.Int).Lsh(whole(l[n]), uint(32*n)), new(big.Int))
			if should := diff(number(x...), number(y...), bit(borrow)); d.Cmp(should) != 0 {
				t.Errorf("%v - %v - %d: %v", x, y, borrow, d)
			}
		}
	})
}

// P2.5: a product of more words and a word, and its quotient.
func TestLongProducts(t *testing.T) {
	longNumbers(func(x, y []int32) {
		by := make([]int32, len(x))
		for i := range by {
			by[i] = y[0]
		}
		p := wordByWord(long.Mul, x, by, y[len(y)-1])
		should := new(big.Int).Mul(number(x...), unsigned(y[0]))
		if should.Add(should, unsigned(y[len(y)-1])); number(p...).Cmp(should) != 0 {
			t.Errorf("%v times %d plus %d: %v", x, y[0], y[len(y)-1], p)
		}
	})
}

// P2.5: a quotient of more words and a word.
func TestLongQuotients(t *testing.T) {
	longNumbers(func(x, y []int32) {
		d := y[0]
		if d == 0 {
			return
		}
		q, rest := make([]int32, len(x)), int32(0)
		for i := len(x) - 1; i >= 0; i-- {
			var over bool
			if q[i], rest, over = long.Div(rest, x[i], d); over {
				t.Errorf("%v divided by %d: over at word %d", x, d, i)
			}
		}
		quotient, remainder := new(big.Int).QuoRem(number(x...), unsigned(d), new(big.Int))
		if number(q...).Cmp(quotient) != 0 || unsigned(rest).Cmp(remainder) != 0 {
			t.Errorf("%v divided by %d: %v, %d", x, d, q, rest)
		}
	})
}

// P0.1: all calls return, the same each time.
func TestTotal(t *testing.T) {
	all := []call{
		checked(long.Add), checked(long.Sub), double(long.Sum), double(long.Diff), double(long.Mul), div, double(long.Shl), double(long.Shr),
		func(hi, lo, _ int32) result {
			h, l, n := long.Norm(hi, lo)
			return result{h, l, n == 64}
		},
		func(v, _, _ int32) result {
			lo, hi := long.Xdble(v)
			return result{lo, hi, false}
		},
		func(lo, hi, _ int32) result {
			r, over := long.Csngl(lo, hi)
			return result{r, 0, over}
		},
	}
	triples(func(a, b, c int32) {
		for i, f := range all {
			if r, again := f(a, b, c), f(a, b, c); again != r {
				t.Errorf("call %d of %d, %d, %d: %v; then %v", i, a, b, c, r, again)
			}
		}
	})
}
