package fold_test

import (
	"testing"

	"transputer/api"
	"transputer/fold"
)

// applied is a call of Apply with its results.
type applied struct {
	o    api.Operator
	a, b int32
	v    int32
	ok   bool
}

func checkApply(t *testing.T, c applied) {
	t.Helper()
	if v, ok := fold.Apply(c.o, c.a, c.b); v != c.v || ok != c.ok {
		t.Errorf("Apply(%d, %d, %d) = %d, %t, not %d, %t", c.o, c.a, c.b, v, ok, c.v, c.ok)
	}
}

func isTruth(v int64) bool { return v == 0 || v == 1 }

func one(is bool) int64 {
	if is {
		return 1
	}
	return 0
}

// wrapped returns the word that is equal to v modulo 2^32.
func wrapped(v int64) int64 {
	v = ((v % (1 << 32)) + 1<<32) % (1 << 32)
	if v > most {
		v -= 1 << 32
	}
	return v
}

// bits returns the word whose bits are those of a and b together.
func bits(a, b int64, both func(x, y bool) bool) int64 {
	v := int64(0)
	for i := range 32 {
		v += one(both(a>>i&1 == 1, b>>i&1 == 1)) << i
	}
	return wrapped(v)
}

// shifted returns the word a, shifted by so many places to the left, or to the right if that is negative.
func shifted(a, n int64) int64 {
	unsigned := (a + 1<<32) % (1 << 32)
	for range min(max(n, -n), 40) {
		if n > 0 {
			unsigned = unsigned * 2 % (1 << 32)
		} else {
			unsigned /= 2
		}
	}
	return wrapped(unsigned)
}

func places(b int64) int64 { return (b + 1<<32) % (1 << 32) }

// exact returns the value of an operator by the chapter's table; needed is what it asks for, beside that the value is a word.
func exact(o api.Operator, a, b int64) (v int64, needed bool) {
	if (o == api.OperDiv || o == api.OperRem) && b == 0 {
		return 0, false
	}
	truths := isTruth(a) && isTruth(b)
	switch o {
	case api.OperAdd:
		return a + b, true
	case api.OperSub:
		return a - b, true
	case api.OperMul:
		return a * b, true
	case api.OperDiv:
		return a / b, true
	case api.OperRem:
		return a - b*(a/b), true
	case api.OperPlus:
		return wrapped(a + b), true
	case api.OperMinus:
		return wrapped(a - b), true
	case api.OperTimes:
		return wrapped(a * b), true
	case api.OperBitAnd:
		return bits(a, b, func(x, y bool) bool { return x && y }), true
	case api.OperBitOr:
		return bits(a, b, func(x, y bool) bool { return x || y }), true
	case api.OperBitXor:
		return bits(a, b, func(x, y bool) bool { return x != y }), true
	case api.OperShl:
		return shifted(a, places(b)), true
	case api.OperShr:
		return shifted(a, -places(b)), true
	case api.OperAnd:
		return a * b, truths
	case api.OperOr:
		return one(a+b > 0), truths
	case api.OperAfter:
		return one(wrapped(a-b) > 0), true
	case api.OperNeg:
		return -a, true
	case api.OperModNeg:
		return wrapped(-a), true
	case api.OperBitNot:
		return -a - 1, true
	case api.OperNot:
		return 1 - a, isTruth(a)
	}
	return compared(o, a, b)
}

func compared(o api.Operator, a, b int64) (v int64, needed bool) {
	switch o {
	case api.OperEq:
		return one(a == b), true
	case api.OperNe:
		return one(a != b), true
	case api.OperLt:
		return one(a < b), true
	case api.OperGt:
		return one(a > b), true
	case api.OperLe:
		return one(a <= b), true
	case api.OperGe:
		return one(a >= b), true
	}
	return 0, false
}

// applyByRules returns what Apply returns by the chapter's table.
func applyByRules(o api.Operator, a, b int32) (int32, bool) {
	v, ok := exact(o, int64(a), int64(b))
	if !ok || v < least || v > most {
		return 0, false
	}
	return int32(v), true
}

// words are numbers at the limits of words, of bytes, of truth values and of shifts, with their neighbours.
func words() (l []int32) {
	for _, x := range []int32{least, -1 << 30, -65536, -256, -32, 0, 32, 64, 256, 46341, 65536, 1 << 30} {
		l = append(l, x-2, x-1, x, x+1, x+2)
	}
	return append(l, 123456789, -987654321, 46340, -46341)
}

// P14.1: all numbers of operators, with operands at the limits.
func TestOperators(t *testing.T) {
	values := map[api.Operator]int{}
	for o := range 256 {
		for _, a := range words() {
			for _, b := range words() {
				v, ok := applyByRules(api.Operator(o), a, b)
				checkApply(t, applied{api.Operator(o), a, b, v, ok})
				values[api.Operator(o)] += int(one(ok))
			}
		}
	}
	for o := range 256 {
		if is := api.OperAdd <= api.Operator(o) && api.Operator(o) <= api.OperNot; is != (values[api.Operator(o)] > 0) {
			t.Errorf("%d has %d values", o, values[api.Operator(o)])
		}
	}
}

// P14.1: each requirement at and beyond its limit.
func TestRequirements(t *testing.T) {
	for _, c := range []applied{
		{api.OperAdd, most - 1, 1, most, true}, {api.OperAdd, most, 1, 0, false}, {api.OperAdd, least + 1, -1, least, true}, {api.OperAdd, least, -1, 0, false}, {api.OperAdd, most, most, 0, false},
		{api.OperSub, least + 1, 1, least, true}, {api.OperSub, least, 1, 0, false}, {api.OperSub, most, -1, 0, false}, {api.OperSub, -1, least, most, true}, {api.OperSub, 0, least, 0, false},
		{api.OperMul, 46340, 46340, 2147395600, true}, {api.OperMul, 46341, 46341, 0, false}, {api.OperMul, least, 1, least, true}, {api.OperMul, least, -1, 0, false}, {api.OperMul, 65536, -32768, least, true}, {api.OperMul, 65536, 32768, 0, false}, {api.OperMul, most, -1, -most, true},
		{api.OperDiv, 7, 2, 3, true}, {api.OperDiv, -7, 2, -3, true}, {api.OperDiv, 7, -2, -3, true}, {api.OperDiv, -7, -2, 3, true}, {api.OperDiv, 0, 0, 0, false}, {api.OperDiv, 1, 0, 0, false}, {api.OperDiv, least, -1, 0, false}, {api.OperDiv, least + 1, -1, most, true}, {api.OperDiv, least, 1, least, true},
		{api.OperRem, 7, 2, 1, true}, {api.OperRem, -7, 2, -1, true}, {api.OperRem, 7, -2, 1, true}, {api.OperRem, -7, -2, -1, true}, {api.OperRem, 5, 0, 0, false}, {api.OperRem, 0, 0, 0, false}, {api.OperRem, least, -1, 0, true}, {api.OperRem, 9, -1, 0, true}, {api.OperRem, least, most, -1, true},
		{api.OperShl, 1, 31, least, true}, {api.OperShl, 1, 32, 0, true}, {api.OperShl, -1, -1, 0, true}, {api.OperShl, -1, least, 0, true}, {api.OperShl, 5, 0, 5, true}, {api.OperShr, least, 31, 1, true}, {api.OperShr, -1, 32, 0, true}, {api.OperShr, -1, -1, 0, true}, {api.OperShr, -1, 0, -1, true}, {api.OperShr, -1, 1, most, true},
		{api.OperAnd, 1, 1, 1, true}, {api.OperAnd, 0, 1, 0, true}, {api.OperAnd, 1, 0, 0, true}, {api.OperAnd, 0, 0, 0, true}, {api.OperAnd, 0, 2, 0, false}, {api.OperAnd, 2, 0, 0, false}, {api.OperAnd, 3, 3, 0, false}, {api.OperAnd, -1, 1, 0, false}, {api.OperAnd, 1, -1, 0, false},
		{api.OperOr, 1, 1, 1, true}, {api.OperOr, 0, 1, 1, true}, {api.OperOr, 1, 0, 1, true}, {api.OperOr, 0, 0, 0, true}, {api.OperOr, 1, 2, 0, false}, {api.OperOr, 2, 1, 0, false}, {api.OperOr, -1, 0, 0, false}, {api.OperOr, 1, -1, 0, false},
		{api.OperAfter, 1, 0, 1, true}, {api.OperAfter, 0, 1, 0, true}, {api.OperAfter, 4, 4, 0, true}, {api.OperAfter, most, 0, 1, true}, {api.OperAfter, least, 0, 0, true}, {api.OperAfter, least, 1, 1, true}, {api.OperAfter, least, most, 1, true}, {api.OperAfter, most, least, 0, true},
		{api.OperNeg, most, 5, -most, true}, {api.OperNeg, least, 5, 0, false}, {api.OperNeg, least + 1, 0, most, true}, {api.OperModNeg, least, 0, least, true}, {api.OperModNeg, 7, 9, -7, true}, {api.OperBitNot, 0, 9, -1, true}, {api.OperBitNot, least, 0, most, true},
		{api.OperNot, 0, 5, 1, true}, {api.OperNot, 1, 5, 0, true}, {api.OperNot, 2, 0, 0, false}, {api.OperNot, -1, 1, 0, false}, {api.OperNot, least, 0, 0, false},
		{api.NoOperator, 1, 1, 0, false}, {api.OperNot + 1, 1, 1, 0, false}, {255, 0, 0, 0, false},
	} {
		checkApply(t, c)
	}
}

// P14.1: an operator of one operand ignores the other one.
func TestIgnoredOperand(t *testing.T) {
	for o := api.OperNeg; o <= api.OperNot; o++ {
		for _, a := range words() {
			v, ok := fold.Apply(o, a, 0)
			for _, b := range words() {
				checkApply(t, applied{o, a, b, v, ok})
			}
		}
	}
}
