package eval_test

import (
	"math"
	"slices"
	"testing"

	"transputer/api"
)

// ofEachKind are an expression of each kind, which have a value in store one, whatever number stands for a part.
func ofEachKind() []api.KExpr {
	return []api.KExpr{number(1), variable(1), elem(1, number(1)), unary(api.OperNeg, number(1)), binary(api.OperAdd, number(1), number(1)), convert(api.TyByte, number(1))}
}

// checkByRules checks that the value of an expression, or that it has none, is what the chapter says, and that its index
// stands for a place accordingly. It returns whether there is one.
func checkByRules(t *testing.T, s [][]int32, x api.KExpr) bool {
	t.Helper()
	v, ok := valueByRules(s, x)
	if ok {
		checkValue(t, s, x, v)
	} else {
		checkFault(t, s, x)
	}
	return ok
}

// P17.2: each kind of expression with each of its fields changed.
func TestFields(t *testing.T) {
	s := slices.Repeat([][]int32{{1, 1}}, 300)
	valid, not := 0, 0
	check := func(x api.KExpr) {
		t.Helper()
		if checkByRules(t, s, x) {
			valid++
		} else {
			not++
		}
	}
	for _, x := range ofEachKind() {
		check(x)
		for n := range 256 {
			y, z, w := x, x, x
			y.Kind, z.Oper, w.To = api.KExprKind(n), api.Operator(n), api.TypeKind(n)
			check(y)
			check(z)
			check(w)
		}
		for _, n := range []int{math.MinInt, -1 << 32, -2, -1, 0, 1, 2, 254, 255, 256, 257, 299, 300, 1 << 32, math.MaxInt} {
			y, z := x, x
			y.V, z.N = n, int32(n)
			check(y)
			check(z)
			y.N = int32(n)
			check(y)
		}
		for n := range 5 {
			y := x
			y.L = slices.Repeat([]api.KExpr{number(1)}, n)
			check(y)
			y.L = make([]api.KExpr, n)
			check(y)
		}
	}
	if valid < 100 || not < 4000 {
		t.Error("the expressions are too much of one sort:", valid, not)
	}
}

// P17.2: which operators stand in front of an operand, and which ones between two.
func TestOperatorNumbers(t *testing.T) {
	for n := range 256 {
		o := api.Operator(n)
		if x := unary(o, number(1)); api.OperNeg <= o && o <= api.OperNot {
			checkValue(t, nil, x, map[api.Operator]int32{api.OperNeg: -1, api.OperModNeg: -1, api.OperBitNot: -2}[o])
		} else {
			checkFault(t, nil, x)
		}
		checkFault(t, nil, api.KExpr{Kind: api.KxMonadic, Oper: o})
		checkFault(t, nil, api.KExpr{Kind: api.KxMonadic, Oper: o, L: []api.KExpr{number(1), number(1)}})
		if x := binary(o, number(1), number(1)); api.OperAdd <= o && o <= api.OperAfter {
			checkByRules(t, nil, x)
		} else {
			checkFault(t, nil, x)
		}
		checkFault(t, nil, api.KExpr{Kind: api.KxDyadic, Oper: o, L: []api.KExpr{number(1)}})
		checkFault(t, nil, api.KExpr{Kind: api.KxDyadic, Oper: o, L: []api.KExpr{number(1), number(1), number(1)}})
	}
}

// P17.2: an expression with a part that is not valid is not valid, even if that part would not be evaluated.
func TestInvalidParts(t *testing.T) {
	s := storeOf("1; 1 1")
	for _, bad := range []api.KExpr{{}, {Kind: 7}, {Kind: api.KxNumber, V: 1}, {Kind: api.KxNumber, Oper: api.OperAdd}, {Kind: api.KxNumber, To: api.TyInt}, {Kind: api.KxVar, N: 1}, variable(-1), variable(256), elem(256, number(0)), unary(api.OperAdd, number(1)), binary(api.OperNot, number(1), number(1)), convert(api.NoType, number(1)), convert(api.TyChan, number(1)), {Kind: api.KxNumber, L: []api.KExpr{number(1)}}} {
		for _, x := range []api.KExpr{
			bad, elem(1, bad), unary(api.OperNot, bad), convert(api.TyInt, bad), binary(api.OperAdd, bad, number(1)), binary(api.OperAdd, number(1), bad),
			binary(api.OperAnd, number(0), bad), binary(api.OperOr, number(1), bad), binary(api.OperAnd, kexpr("v0 = 0"), unary(api.OperNot, bad)), binary(api.OperOr, kexpr("v0"), binary(api.OperEq, elem(1, bad), number(1))),
			binary(api.OperAnd, number(0), binary(api.OperAnd, number(0), bad)), binary(api.OperAnd, bad, number(0)),
		} {
			checkFault(t, s, x)
			checkPlace(t, s, api.KPlace{V: 1, Index: []api.KExpr{x}}, 0, 0, false)
		}
	}
	checkValue(t, s, binary(api.OperAnd, number(0), variable(255)), 0)
	checkValue(t, s, binary(api.OperOr, number(1), elem(255, number(-1))), 1)
}

// nested returns an expression with the value 0 that is so deep, and of so many expressions.
func nested(depth, size int) api.KExpr {
	if size == depth {
		x := number(0)
		for range depth - 1 {
			x = unary(api.OperNeg, x)
		}
		return x
	}
	return binary(api.OperAdd, nested(depth-1, depth-1), balanced(size-depth))
}

// balanced returns an expression with the value 0 and of so many expressions that is no deeper than it must be.
func balanced(size int) api.KExpr {
	switch {
	case size == 1:
		return number(0)
	case size%2 == 0:
		return unary(api.OperNeg, balanced(size-1))
	}
	half := (size - 1) / 2
	return binary(api.OperAdd, balanced(half), balanced(size-1-half))
}

// P17.2, P17.3: expressions at their limits and beyond, also where they would not be evaluated.
func TestLimits(t *testing.T) {
	s := storeOf("0; 0 0")
	for _, c := range []struct {
		depth, size int
		want        bool
	}{{1, 1, true}, {31, 31, true}, {32, 32, true}, {33, 33, false}, {34, 34, false}, {20, 255, true}, {20, 256, true}, {20, 257, false}, {20, 300, false}, {32, 256, true}, {33, 256, false}, {32, 257, false}, {33, 257, false}} {
		x := nested(c.depth, c.size)
		if depthOf(x) != c.depth || sizeOf(x) != c.size || validByRules(x) != c.want {
			t.Fatal(c, depthOf(x), sizeOf(x))
		}
		check := func(x api.KExpr, want bool) {
			t.Helper()
			if want {
				checkValue(t, s, x, 0)
			} else {
				checkFault(t, s, x)
			}
		}
		check(x, c.want)
		checkPlace(t, s, api.KPlace{V: 1, Index: []api.KExpr{x}}, map[bool]int{true: 1}[c.want], 0, c.want)
		check(elem(1, x), c.depth < 32 && c.size < 256)
		check(convert(api.TyBool, x), c.depth < 32 && c.size < 256)
		for _, with := range []api.KExpr{binary(api.OperAnd, number(0), x), binary(api.OperAnd, x, number(0)), binary(api.OperTimes, x, number(0)), binary(api.OperMinus, number(0), x)} {
			check(with, c.depth < 32 && c.size < 255)
		}
	}
}
