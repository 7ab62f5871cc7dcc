package fold_test

import (
	"strings"
	"testing"

	"transputer/api"
	"transputer/expr"
	"transputer/fold"
)

// P14.2: every kind of expression, with a value and without one.
func TestKinds(t *testing.T) {
	l := env("VAL INT n IS 3:/VAL BYTE c IS 'A':/VAL BOOL q IS TRUE:/VAL BOOL r IS FALSE:/[7]INT v:/INT x:/TIMER t:/CHAN OF INT h:/[64]CHAN OF INT hh:/PROTOCOL p IS INT:/PROC f(INT n)/.SKIP/:/INT a IS x:")
	checkConst(t, l, map[string]int32{
		"0": 0, "2147483647": most, "#80000000": least, "'A'": 65, "'*#FF'": 255, "'*#00'": 0, "TRUE": 1, "FALSE": 0,
		"n": 3, "c": 65, "q": 1, "r": 0, "SIZE v": 7, "SIZE hh": 64, "n + n": 6, "- n": -3, "NOT q": 0, "MINUS n": -3, "~ n": -4, "q AND r": 0, "q OR r": 1,
		"INT c": 65, "INT q": 1, "BYTE n": 3, "BYTE q": 1, "BOOL r": 0, "BOOL (n - 2)": 1, "(SIZE v) * n": 21, "n AFTER 2": 1, "(n << 2) /\\ 12": 12,
	},
		"x", "v", "t", "h", "hh", "p", "f", "a", "u", "v[0]", "v[n]", "n[0]", "c['A']", "u[1]", "hh[0]", "SIZE x", "SIZE n", "SIZE t", "SIZE h", "SIZE p", "SIZE f", "SIZE a", "SIZE u",
		"x + n", "n + x", "x + x", "- x", "NOT n", "NOT x", "n / 0", "n \\ (n - 3)", "2147483647 + n", "q AND n", "n OR r", "BYTE x", "BYTE (n - 4)", "BYTE 256", "BOOL n", "BOOL (n - 4)", "INT x", "INT v[0]", "BYTE (n / 0)",
	)
}

// P14.2: an operator has no value without those of its operands, whatever the other one is.
func TestOperandsWithoutValue(t *testing.T) {
	l := env("VAL BOOL q IS TRUE:/INT x:")
	for o := api.OperAdd; o <= api.OperNot; o++ {
		for _, without := range []api.Expr{value("x"), value("x[1]"), value("SIZE x"), value("1 / 0"), value("BYTE 256")} {
			if o >= api.OperNeg {
				checkNone(t, unary(o, without), l)
				checkValue(t, unary(o, value("q")), l, must(o, 1, 0))
				continue
			}
			for _, with := range []api.Expr{number(0), number(1), value("q"), value("FALSE")} {
				checkNone(t, binary(o, without, with), l)
				checkNone(t, binary(o, with, without), l)
			}
			checkValue(t, binary(o, value("q"), number(1)), l, must(o, 1, 1))
		}
	}
}

// must returns a value of an operator that has one.
func must(o api.Operator, a, b int32) int32 {
	v, ok := applyByRules(o, a, b)
	if !ok {
		panic(o)
	}
	return v
}

// P14.2: conversions at and beyond their limits.
func TestConversions(t *testing.T) {
	for _, n := range words() {
		for to, ok := range map[api.TypeKind]bool{api.TyInt: true, api.TyByte: 0 <= n && n <= 255, api.TyBool: n == 0 || n == 1} {
			x := api.Expr{Kind: api.ExConvert, To: to, L: []api.Expr{number(n)}}
			if ok {
				checkValue(t, x, nil, n)
			} else {
				checkNone(t, x, nil)
			}
		}
	}
}

// P14.2: the Dim of what is declared, at its limits and beyond.
func TestDimensions(t *testing.T) {
	for dim, want := range map[int]int32{1: 1, 2: 2, 64: 64, 65: 65, most: most, most - 1: most - 1} {
		checkValue(t, value("SIZE v"), []api.Spec{array(dim, "u", "v")}, want)
	}
	for _, dim := range []int{0, -1, -7, least, -most, most + 1, most + 2, 1 << 32, 1<<32 + 1, 1<<63 - 1, -1 << 63} {
		checkNone(t, value("SIZE v"), []api.Spec{array(dim, "u", "v")})
	}
	for k := range api.SpecKind(10) {
		s := array(9, "v")
		s.Kind, s.E = k, number(9)
		if k == api.SpDeclare {
			checkValue(t, value("SIZE v"), []api.Spec{s}, 9)
		} else {
			checkNone(t, value("SIZE v"), []api.Spec{s})
		}
	}
	for k := range api.TypeKind(10) {
		s := api.Spec{Kind: api.SpDeclare, Type: api.Type{Kind: k, Dim: 5, Item: 9, Proto: "p"}, Names: []string{"v"}}
		checkValue(t, value("SIZE v"), []api.Spec{s}, 5)
	}
}

// P14.2: a name has a value if its specification is a SpVal, whatever else is in it.
func TestKindsOfSpecifications(t *testing.T) {
	for k := range 256 {
		s := spec(api.SpecKind(k), api.TyInt, number(7), "a", "b")
		for _, name := range []string{"a", "b"} {
			if s.Kind == api.SpVal {
				checkValue(t, value(name), []api.Spec{s}, 7)
			} else {
				checkNone(t, value(name), []api.Spec{spec(api.SpVal, api.TyInt, number(1), "a", "b"), s})
			}
		}
	}
	odd := api.Spec{Kind: api.SpVal, Type: api.Type{Kind: 99, Dim: -4, Item: 5, Proto: "?"}, Names: []string{"1", "", "a", "SEQ"}, E: number(7), Formals: make([]api.Formal, 3), Body: make([]api.Process, 2)}
	checkConst(t, []api.Spec{odd, {}, spec(api.SpVal, 0, number(8)), spec(api.SpVal, 0, number(8), "A", "a.", "")}, map[string]int32{"a + a": 14}, "b")
}

// P14.2: the last specification of a name counts, and in its expression those before it.
func TestDeclaredAgain(t *testing.T) {
	checkConst(t, env("VAL INT x IS 5:/VAL INT x IS x + x:/VAL INT x IS x * x:"), map[string]int32{"x": 100})
	checkConst(t, env("VAL INT x IS 5:/VAL INT y IS x:/VAL INT x IS 6:/VAL INT z IS (x * 10) + y:/VAL INT y IS 7:"), map[string]int32{"z": 65, "(z * 100) + ((x * 10) + y)": 6567})
	checkConst(t, env("VAL INT x IS 5:/VAL INT y IS x:/INT x:"), map[string]int32{"y": 5}, "x")
	checkConst(t, env("INT x:/VAL INT y IS x:/VAL INT x IS 5:/VAL INT z IS x:"), map[string]int32{"z": 5, "x": 5}, "y", "y + x")
	checkConst(t, env("[3]INT v:/VAL INT n IS SIZE v:/[4]INT v:/VAL INT v IS n + (SIZE v):"), map[string]int32{"v": 7, "n": 3}, "SIZE v")
	for _, hiding := range []string{"INT x:", "[2]INT x:", "TIMER x:", "CHAN OF INT x:", "INT x IS y:", "PROTOCOL x IS INT:", "PROC x()/.SKIP/:", "VAL INT x IS y:"} {
		checkConst(t, env("INT y:/VAL INT x IS 5:/VAL INT z IS x:/"+hiding), map[string]int32{"z": 5}, "x", "SIZE y")
		checkConst(t, env("INT y:/VAL INT x IS 5:/"+hiding+"/VAL INT z IS x:"), nil, "x", "z")
	}
}

// P14.2: specifications of several names, of one name twice, and of names in themselves.
func TestSeveralNames(t *testing.T) {
	outer := spec(api.SpVal, api.TyInt, number(2), "a", "b", "c")
	inner := spec(api.SpVal, api.TyInt, value("a + b"), "b", "d", "b")
	l := []api.Spec{outer, inner}
	checkConst(t, l, map[string]int32{"a": 2, "b": 4, "c": 2, "d": 4, "(a * b) + (c * d)": 16})
	checkConst(t, append(l, inner), map[string]int32{"a": 2, "b": 6, "c": 2, "d": 6})
	checkConst(t, append(l, inner, array(5, "a", "c", "a")), map[string]int32{"SIZE a": 5, "SIZE c": 5, "b": 6}, "a", "c", "SIZE b")
	itself := spec(api.SpVal, api.TyInt, value("x"), "x")
	checkConst(t, []api.Spec{itself}, nil, "x", "x + 1")
	checkConst(t, []api.Spec{itself, itself, itself}, nil, "x")
	checkConst(t, []api.Spec{spec(api.SpVal, api.TyInt, number(3), "x"), itself, itself}, map[string]int32{"x": 3})
	other := spec(api.SpVal, api.TyInt, value("y"), "x", "y")
	checkConst(t, []api.Spec{other, itself, other}, nil, "x", "y")
	checkConst(t, []api.Spec{spec(api.SpVal, api.TyInt, number(8), "y"), other, itself, other}, map[string]int32{"x + y": 16})
}

// P14.2: a specification whose expression is not valid, or has no value, takes only its own value away.
func TestSpecificationsWithoutValue(t *testing.T) {
	for _, wrong := range append(invalid(), value("u"), value("1 / 0"), value("x[0]"), value("SIZE x")) {
		s := spec(api.SpVal, api.TyInt, wrong, "a", "b")
		l := []api.Spec{spec(api.SpVal, api.TyInt, number(6), "a", "x", "y"), s, spec(api.SpVal, api.TyInt, value("a"), "c"), spec(api.SpVal, api.TyInt, number(4), "y")}
		checkConst(t, l, map[string]int32{"x": 6, "y": 4, "x + y": 10}, "a", "b", "c", "x + a", "c - c")
		checkConst(t, append(l, spec(api.SpVal, api.TyInt, value("x"), "a")), map[string]int32{"a": 6}, "b", "c")
	}
}

// deep returns an expression that is so deep.
func deep(n int, x api.Expr) api.Expr {
	for range n - 1 {
		x = unary(api.OperModNeg, x)
	}
	return x
}

// wide returns an expression with 2 to the power of n parts, without those that have parts.
func wide(n int, x api.Expr) api.Expr {
	for range n {
		x = binary(api.OperPlus, x, x)
	}
	return x
}

// invalid returns expressions that are not valid.
func invalid() []api.Expr {
	around := make([]api.Expr, 1)
	around[0] = unary(api.OperNeg, api.Expr{})
	around[0].L = around
	x, n := value("x"), number(1)
	return []api.Expr{
		{}, {Kind: api.ExSize + 1, S: "x"}, {Kind: 255}, {Kind: api.ExName}, {Kind: api.ExName, S: "1x"}, {Kind: api.ExName, S: "IF"}, {Kind: api.ExName, S: "x "}, {Kind: api.ExName, S: strings.Repeat("x", 33)}, {Kind: api.ExName, S: "x", N: 1},
		{Kind: api.ExNumber, S: "x"}, {Kind: api.ExNumber, To: api.TyInt}, {Kind: api.ExNumber, L: []api.Expr{n}}, {Kind: api.ExNumber, Oper: api.OperAdd}, {Kind: api.ExByte, N: 256}, {Kind: api.ExByte, N: -1}, {Kind: api.ExBool, N: 2}, {Kind: api.ExBool, N: -1},
		{Kind: api.ExIndex, S: "x"}, {Kind: api.ExIndex, L: []api.Expr{n}}, {Kind: api.ExSize}, {Kind: api.ExSize, S: "x", L: []api.Expr{n}}, unary(api.OperAdd, n), unary(api.OperNot+1, n), unary(api.OperNeg, api.Expr{}), {Kind: api.ExMonadic, Oper: api.OperNeg},
		binary(api.OperNeg, n, n), binary(api.OperAdd, n, api.Expr{}), binary(api.OperAdd, value("1 / 0"), api.Expr{Kind: api.ExByte, N: 300}), {Kind: api.ExDyadic, Oper: api.OperAdd, L: []api.Expr{n}}, {Kind: api.ExDyadic, Oper: api.OperAdd, L: []api.Expr{n, n, n}},
		{Kind: api.ExConvert, To: api.TyInt}, {Kind: api.ExConvert, To: api.TyChan, L: []api.Expr{n}}, {Kind: api.ExConvert, L: []api.Expr{n}}, deep(33, x), deep(33, n), wide(8, x), wide(8, n), deep(million, n), wide(20, n), around[0],
	}
}

// P14.2, P14.3, R2: ErrArg is ahead of all others, with any environment.
func TestInvalidExpressions(t *testing.T) {
	for _, x := range invalid() {
		for _, l := range [][]api.Spec{nil, {}, env("VAL INT x IS 1:"), env("INT x:"), {{}, spec(255, 255, api.Expr{}, "x", "")}} {
			if v, e := fold.Const(x, l); v != 0 || e != api.ErrArg {
				t.Errorf("Const(%s) = %d, %d", exprText(x), v, e)
			}
			if y, e := fold.Fold(x, l); !expr.Same(y, api.Expr{}) || e != api.ErrArg {
				t.Errorf("Fold(%s) = %s, %d", exprText(x), exprText(y), e)
			}
		}
	}
	l := env("VAL INT x IS 1:")
	checkValue(t, deep(32, value("x")), l, -1)
	checkValue(t, wide(7, value("x")), l, 128)
	checkFold(t, wide(7, value("x")), l, number(128))
	checkFold(t, deep(32, value("u")), l, deep(32, value("u")))
}
