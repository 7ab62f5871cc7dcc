package word_test

import (
	"math/big"
	"testing"

	"transputer/word"
)

const (
	most  int32 = 1<<31 - 1
	least int32 = -1 << 31
)

// edges are the words next to which something changes: signs, halves, bytes, squares, the numbers of places.
func edges() []int32 {
	l := []int32{least, least + 1, least + 2, -1 << 30, 1 << 30, most - 1, most, 46340, 46341, 123456789}
	for _, v := range []int32{0, 7, 10, 15, 31, 32, 33, 63, 64, 65, 127, 128, 255, 256, 32767, 32768, 65535, 65536} {
		l = append(l, v, -v, v+1, -v-1)
	}
	return l
}

// pairs calls f with all pairs of edges.
func pairs(f func(a, b int32)) {
	l := edges()
	for _, a := range l {
		for _, b := range l {
			f(a, b)
		}
	}
}

func whole(v int32) *big.Int { return big.NewInt(int64(v)) }

// unsigned is v taken as unsigned.
func unsigned(v int32) *big.Int {
	if v < 0 {
		return new(big.Int).Add(whole(v), power(32))
	}
	return whole(v)
}

func power(n int32) *big.Int { return new(big.Int).Lsh(big.NewInt(1), uint(n)) }

// reduced is the word that x is reduced to, and whether x does not fit.
func reduced(x *big.Int) (int32, bool) {
	r := new(big.Int).Mod(x, power(32)) // not negative
	if r.Cmp(power(31)) >= 0 {
		r.Sub(r, power(32))
	}
	return int32(r.Int64()), r.Cmp(x) != 0
}

// want is what a call with two words should return.
type want struct {
	a, b, r int32
	over    bool
}

type call func(a, b int32) (int32, bool)

func check(t *testing.T, name string, f call, l []want) {
	t.Helper()
	for _, w := range l {
		if r, over := f(w.a, w.b); r != w.r || over != w.over {
			t.Errorf("%s(%d, %d): %d, %v; want %d, %v", name, w.a, w.b, r, over, w.r, w.over)
		}
	}
}

// same checks f for all pairs of edges against what it should be.
func same(t *testing.T, name string, f, should call) {
	t.Helper()
	pairs(func(a, b int32) {
		r, over := should(a, b)
		check(t, name, f, []want{{a, b, r, over}})
	})
}

// alone makes a call of a function without the result over.
func alone(f func(a, b int32) int32) call {
	return func(a, b int32) (int32, bool) { return f(a, b), false }
}

// exact makes a call from a function on integers.
func exact(f func(z, x, y *big.Int) *big.Int) call {
	return func(a, b int32) (int32, bool) { return reduced(f(new(big.Int), whole(a), whole(b))) }
}

// quiet is f, with false for over.
func quiet(f call) call {
	return func(a, b int32) (int32, bool) {
		r, _ := f(a, b)
		return r, false
	}
}

// P1.1
func TestSums(t *testing.T) {
	check(t, "Add", word.Add, []want{
		{0, 0, 0, false}, {2, 3, 5, false}, {-2, 3, 1, false}, {most, 0, most, false}, {most, -1, most - 1, false},
		{most, 1, least, true}, {1, most, least, true}, {most, most, -2, true},
		{least, -1, most, true}, {least, least, 0, true}, {least, most, -1, false},
	})
	check(t, "Sub", word.Sub, []want{
		{0, 0, 0, false}, {2, 3, -1, false}, {-2, -3, 1, false}, {least, 0, least, false}, {-1, least, most, false},
		{least, 1, most, true}, {0, least, least, true}, {most, -1, least, true}, {most, least, -1, true}, {least, most, 1, true},
	})
	check(t, "Sum", alone(word.Sum), []want{{2, 3, 5, false}, {most, 1, least, false}, {least, -1, most, false}})
	check(t, "Diff", alone(word.Diff), []want{{2, 3, -1, false}, {least, 1, most, false}, {most, -1, least, false}})

	sum, diff := exact((*big.Int).Add), exact((*big.Int).Sub)
	same(t, "Add", word.Add, sum)
	same(t, "Sub", word.Sub, diff)
	same(t, "Sum", alone(word.Sum), quiet(sum))
	same(t, "Diff", alone(word.Diff), quiet(diff))
}

// P1.1
func TestAfter(t *testing.T) {
	for _, c := range []struct {
		a, b int32
		is   bool
	}{
		{least, most, true}, {most, least, false}, {5, 5, false}, {6, 5, true}, {5, 6, false}, {-5, 5, false}, {5, -5, true},
		{most, 0, true}, {0, most, false}, {least, 0, false}, {0, least, false}, {least, 1, true}, {-1, most, false}, {-2, most, true},
	} {
		if is := word.After(c.a, c.b); is != c.is {
			t.Errorf("After(%d, %d): %v", c.a, c.b, is)
		}
	}
	pairs(func(a, b int32) {
		d, _ := exact((*big.Int).Sub)(a, b)
		if is := word.After(a, b); is != (d > 0) {
			t.Errorf("After(%d, %d): %v", a, b, is)
		}
	})
}

// P1.2
func TestMul(t *testing.T) {
	check(t, "Mul", word.Mul, []want{
		{0, most, 0, false}, {6, -7, -42, false}, {-6, -7, 42, false}, {65536, 65536, 0, true}, {65536, 32767, 2147418112, false},
		{65536, 32768, least, true}, {-65536, 32768, least, false}, {46340, 46340, 2147395600, false}, {46341, 46341, -2147479015, true},
		{least, -1, least, true}, {least, 1, least, false}, {most, most, 1, true}, {least, least, 0, true},
	})
	check(t, "Prod", alone(word.Prod), []want{{6, -7, -42, false}, {65536, 65536, 0, false}, {least, -1, least, false}, {most, most, 1, false}})

	product := exact((*big.Int).Mul)
	same(t, "Mul", word.Mul, product)
	same(t, "Prod", alone(word.Prod), quiet(product))
}

// P1.2
func TestDiv(t *testing.T) {
	check(t, "Div", word.Div, []want{
		{7, 2, 3, false}, {-7, 2, -3, false}, {7, -2, -3, false}, {-7, -2, 3, false}, {1, 2, 0, false}, {0, -5, 0, false},
		{7, 0, 0, true}, {0, 0, 0, true}, {least, 0, 0, true}, {least, -1, 0, true}, {least, 1, least, false}, {least + 1, -1, most, false},
	})
	check(t, "Rem", word.Rem, []want{
		{7, 2, 1, false}, {-7, 2, -1, false}, {7, -2, 1, false}, {-7, -2, -1, false}, {1, 2, 1, false}, {-6, 3, 0, false},
		{7, 0, 0, true}, {0, 0, 0, true}, {least, 0, 0, true}, {least, -1, 0, false}, {7, -1, 0, false}, {least, most, -1, false}, {most, least, most, false},
	})

	same(t, "Div", word.Div, func(a, b int32) (int32, bool) {
		if b == 0 {
			return 0, true
		}
		r, over := exact((*big.Int).Quo)(a, b)
		if over {
			return 0, true
		}
		return r, false
	})
	same(t, "Rem", word.Rem, func(a, b int32) (int32, bool) {
		if b == 0 {
			return 0, true
		}
		return exact((*big.Int).Rem)(a, b)
	})
}

// P1.3
func TestShifts(t *testing.T) {
	check(t, "Shl", alone(word.Shl), []want{
		{3, 0, 3, false}, {3, 1, 6, false}, {-1, 4, -16, false}, {3, 31, least, false}, {2, 31, 0, false}, {1, 31, least, false},
		{1, 32, 0, false}, {-1, 33, 0, false}, {-1, 64, 0, false}, {-1, 65, 0, false}, {-1, -1, 0, false}, {-1, least, 0, false}, {0, 5, 0, false},
	})
	check(t, "Shr", alone(word.Shr), []want{
		{3, 0, 3, false}, {-3, 0, -3, false}, {7, 1, 3, false}, {-1, 1, most, false}, {-1, 28, 15, false}, {-1, 31, 1, false}, {least, 31, 1, false},
		{-1, 32, 0, false}, {-1, 33, 0, false}, {-1, 64, 0, false}, {-1, -1, 0, false}, {-1, least, 0, false}, {least, -32, 0, false},
	})

	same(t, "Shl", alone(word.Shl), func(a, n int32) (int32, bool) {
		if n < 0 || n >= 32 {
			return 0, false
		}
		return quiet(exact(func(z, x, _ *big.Int) *big.Int { return z.Mul(x, power(n)) }))(a, n)
	})
	same(t, "Shr", alone(word.Shr), func(a, n int32) (int32, bool) {
		if n < 0 || n >= 32 {
			return 0, false
		}
		r, _ := reduced(new(big.Int).Quo(unsigned(a), power(n)))
		return r, false
	})
}

// P1.4
func TestPartWords(t *testing.T) {
	check(t, "Xword", alone(word.Xword), []want{
		{255, 128, -1, false}, {128, 128, -128, false}, {127, 128, 127, false}, {0, 128, 0, false}, {256, 128, 0, false}, {-1, 128, -257, false},
		{0x8001, 0x8000, -32767, false}, {most, least, most, false}, {least, least, least, false}, {-1, least, -1, false},
		{0, 0, 0, false}, {5, 0, 5, false}, {-5, -1, -5, false}, {-1, -1, 1, false}, {5, -1, 5, false}, {least, 1, most - 1, false},
	})
	check(t, "Cword", word.Cword, []want{
		{127, 128, 127, false}, {128, 128, 128, true}, {0, 128, 0, false}, {-128, 128, -128, false}, {-129, 128, -129, true},
		{most, 128, most, true}, {least, 128, least, true}, {most - 1, most, most - 1, false}, {most, most, most, true},
		{least + 1, most, least + 1, false}, {least, most, least, true}, {0, 0, 0, true}, {-1, 0, -1, true}, {0, 1, 0, false}, {-1, 1, -1, false},
		{-5, -4, -5, true}, {0, -4, 0, true}, {5, -4, 5, true}, {0, least, 0, true}, {most, least, most, true}, {least, least, least, true},
	})

	same(t, "Xword", alone(word.Xword), func(v, sign int32) (int32, bool) {
		if unsigned(v).Cmp(unsigned(sign)) < 0 {
			return v, false
		}
		return quiet(exact(func(z, x, y *big.Int) *big.Int { return z.Sub(x, z.Lsh(y, 1)) }))(v, sign)
	})
	same(t, "Cword", word.Cword, func(v, sign int32) (int32, bool) {
		low, _ := reduced(new(big.Int).Neg(whole(sign)))
		return v, v >= sign || v < low
	})
}

// P1.4
func TestChecks(t *testing.T) {
	check(t, "Csub0", word.Csub0, []want{
		{0, 10, 0, false}, {9, 10, 9, false}, {10, 10, 10, true}, {11, 10, 11, true}, {-1, 10, -1, true}, {least, 10, least, true},
		{0, 0, 0, true}, {0, 1, 0, false}, {5, -1, 5, false}, {-2, -1, -2, false}, {-1, -1, -1, true}, {most, least, most, false}, {least, least, least, true},
	})
	check(t, "Ccnt1", word.Ccnt1, []want{
		{0, 5, 0, true}, {1, 5, 1, false}, {5, 5, 5, false}, {6, 5, 6, true}, {-1, 5, -1, true}, {least, 5, least, true},
		{0, 0, 0, true}, {1, 0, 1, true}, {0, -1, 0, true}, {5, -1, 5, false}, {-1, -1, -1, false}, {-1, -2, -1, true}, {most, least, most, false},
	})

	same(t, "Csub0", word.Csub0, func(i, n int32) (int32, bool) { return i, unsigned(i).Cmp(unsigned(n)) >= 0 })
	same(t, "Ccnt1", word.Ccnt1, func(n, most int32) (int32, bool) {
		return n, n == 0 || unsigned(n).Cmp(unsigned(most)) > 0
	})
}

// P1.6
func TestDivision(t *testing.T) {
	pairs(func(a, b int32) {
		if b == 0 {
			return
		}
		q, over := word.Div(a, b)
		if over { // the quotient is 2^31, which no word is
			q = least
		}
		r, _ := word.Rem(a, b)
		if word.Sum(word.Prod(q, b), r) != a {
			t.Errorf("%d is not %d times %d plus %d", a, b, q, r)
		}
		if whole(r).CmpAbs(whole(b)) >= 0 || a > 0 && r < 0 || a < 0 && r > 0 || a == 0 && r != 0 {
			t.Errorf("the remainder of %d and %d: %d", a, b, r)
		}
	})
}

// P1.6
func TestOneIsAfter(t *testing.T) {
	pairs(func(a, b int32) {
		one := a != b && word.Diff(a, b) != least
		if word.After(a, b) && word.After(b, a) || one != (word.After(a, b) || word.After(b, a)) {
			t.Errorf("After of %d and %d", a, b)
		}
	})
}

// P0.1: all calls return, the same each time.
func TestTotal(t *testing.T) {
	all := []call{
		word.Add, word.Sub, word.Mul, word.Div, word.Rem, alone(word.Sum), alone(word.Diff), alone(word.Prod), alone(word.Shl), alone(word.Shr),
		alone(word.Xword), word.Cword, word.Csub0, word.Ccnt1,
	}
	pairs(func(a, b int32) {
		for i, f := range all {
			r, over := f(a, b)
			if again, x := f(a, b); again != r || x != over {
				t.Errorf("call %d of %d and %d: %d, %v; then %d, %v", i, a, b, r, over, again, x)
			}
		}
		if word.After(a, b) != word.After(a, b) {
			t.Errorf("After(%d, %d) differs", a, b)
		}
	})
}
