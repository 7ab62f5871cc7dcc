package fold_test

import (
	"testing"

	"transputer/api"
)

func literal(k api.ExprKind, n int32) api.Expr { return api.Expr{Kind: k, N: n} }

// P14.3: the literals of literals, conversions and names.
func TestLiterals(t *testing.T) {
	l := env("VAL INT n IS 3:/VAL BYTE c IS 'A':/VAL BOOL q IS TRUE:/[7]BYTE v:/INT x:")
	checkFolds(t, l, map[string]string{
		"5": "5", "'A'": "'A'", "TRUE": "TRUE", "FALSE": "FALSE", "n": "3", "c": "'A'", "q": "TRUE", "SIZE v": "7",
		"BYTE 66": "'B'", "BYTE c": "'A'", "BYTE q": "'*#01'", "BOOL 0": "FALSE", "BOOL q": "TRUE", "INT c": "65", "INT q": "1", "INT n": "3", "BYTE (INT c)": "'A'", "INT (BYTE 7)": "7",
		"x": "x", "v": "v", "u": "u", "v[x]": "v[x]", "SIZE x": "SIZE x", "SIZE u": "SIZE u",
	})
	checkFold(t, value("- n"), l, number(-3))
	checkFold(t, value("MINUS #80000000"), l, number(least))
	checkFold(t, value("- #80000000"), l, unary(api.OperNeg, number(least)))
}

// P14.3: the literals of all operators, whatever their operands are.
func TestLiteralsOfOperators(t *testing.T) {
	kinds := []api.ExprKind{api.ExNumber, api.ExByte, api.ExBool}
	for o := api.OperAdd; o <= api.OperNot; o++ {
		want := api.ExNumber
		switch o {
		case api.OperEq, api.OperNe, api.OperLt, api.OperGt, api.OperLe, api.OperGe, api.OperAnd, api.OperOr, api.OperAfter, api.OperNot:
			want = api.ExBool
		}
		for _, left := range kinds {
			if o >= api.OperNeg {
				checkFold(t, unary(o, literal(left, 1)), nil, literal(want, must(o, 1, 0)))
				continue
			}
			for _, right := range kinds {
				checkFold(t, binary(o, literal(left, 0), literal(right, 1)), nil, literal(want, must(o, 0, 1)))
			}
		}
	}
}

// P14.3: the literal of a name is that of its Type's Kind, whatever else is in the Type, and whatever its E is.
func TestLiteralsOfNames(t *testing.T) {
	for k := range api.TypeKind(12) {
		for _, x := range []api.Expr{number(1), literal(api.ExByte, 1), literal(api.ExBool, 1), value("INT '*#01'"), value("0 < 1")} {
			for _, typ := range []api.Type{{Kind: k}, {Kind: k, Dim: 5}, {Kind: k, Dim: -1, Item: api.TyBool, Proto: "p"}, {Kind: k, Item: api.TyByte}} {
				want := api.ExNumber
				switch k {
				case api.TyByte:
					want = api.ExByte
				case api.TyBool:
					want = api.ExBool
				}
				l := []api.Spec{{Kind: api.SpVal, Type: api.Type{Kind: api.TyBool}, Names: []string{"a"}, E: number(0)}, {Kind: api.SpVal, Type: typ, Names: []string{"b", "a"}, E: x}}
				checkFold(t, value("a"), l, literal(want, 1))
			}
		}
	}
}

// P14.3: a value for whose literal there is none stays as it is, but counts in what is around it.
func TestNoLiteral(t *testing.T) {
	l := []api.Spec{spec(api.SpVal, api.TyByte, number(256), "big"), spec(api.SpVal, api.TyByte, number(-1), "low"), spec(api.SpVal, api.TyByte, number(255), "last"), spec(api.SpVal, api.TyBool, number(2), "two"), spec(api.SpVal, api.TyBool, value("'*#01'"), "yes"), spec(api.SpVal, api.TyByte, value("big"), "again")}
	checkFolds(t, l, map[string]string{
		"big": "big", "low": "low", "last": "'*#FF'", "two": "two", "yes": "TRUE", "again": "again", "big + two": "258", "low < two": "TRUE",
		"BYTE big": "BYTE big", "BOOL two": "BOOL two", "INT big": "256", "INT low": "#FFFFFFFF", "BYTE (low + 1)": "'*#00'", "NOT two": "NOT two", "two AND yes": "two AND TRUE", "x + big": "x + big", "v[low]": "v[low]", "(x + two) + (last + two)": "(x + two) + 257",
	})
}

// P14.3: parts that have values, in expressions that have none.
func TestParts(t *testing.T) {
	l := env("VAL INT n IS 3:/VAL BYTE c IS 'A':/[7]INT v:/INT x:")
	checkFolds(t, l, map[string]string{
		"x + (n * n)": "x + 9", "(n * n) + x": "9 + x", "(x + n) * (n + n)": "(x + 3) * 6", "((n + 1) + x) + (1 + n)": "(4 + x) + 4", "v[n + 1]": "v[4]", "n[n]": "n[3]", "v[v[n - n]]": "v[v[0]]", "u[SIZE v]": "u[7]",
		"- (x + (- n))": "- (x + #FFFFFFFD)", "INT (x < (n + 1))": "INT (x < 4)", "BYTE (n + 253)": "BYTE 256", "(n + n) / (n - 3)": "6 / 0", "((n + n) / (n - 3)) = (BYTE c)": "(6 / 0) = 'A'", "NOT (n + 1)": "NOT 4", "(n = 3) AND (n + n)": "TRUE AND 6",
		"SIZE n": "SIZE n", "SIZE c": "SIZE c", "v[SIZE n]": "v[SIZE n]", "(SIZE x) + (SIZE v)": "(SIZE x) + 7", "(x AFTER n) OR (n AFTER 2)": "(x AFTER 3) OR TRUE", "c[INT c]": "c[65]",
	})
}
