package typing_test

import (
	"testing"

	"transputer/api"
)

// operand is an expression with its type in the environment operandsEnv, or without one.
type operand struct {
	x api.Expr
	t api.Type
	e api.Errno
}

// oddTypes are types that do not exist: fields that their kind does not use, dimensions that are too small or too large, and kinds that there are not.
func oddTypes() []api.Type {
	return []api.Type{
		{Kind: api.TyInt, Item: api.TyInt}, {Kind: api.TyInt, Proto: "p"}, {Kind: api.TyByte, Proto: "b"}, {Kind: api.TyBool, Item: api.TyBool},
		{Kind: api.TyInt, Dim: -1}, {Kind: api.TyByte, Dim: -1 << 40}, {Kind: api.TyBool, Dim: 1 << 40}, {Kind: api.TyInt, Dim: 65},
		{Kind: api.TyInt, Dim: 2, Item: api.TyInt}, {Kind: api.TyTimer, Dim: 3}, {Kind: api.TyTimer, Item: api.TyInt}, {Kind: api.TyTimer, Proto: "p"},
		{Kind: api.TyChan}, {Kind: api.TyChan, Item: api.TyTimer}, {Kind: api.TyChan, Item: api.TyInt, Proto: "p"}, {Kind: api.TyChan, Dim: -1, Item: api.TyInt},
		{}, {Dim: 5}, {Kind: api.TyTimer + 1}, {Kind: 255, Dim: 1, Item: 255, Proto: "\x00"},
	}
}

// oddName returns the name that has the odd type of this index.
func oddName(i int) string { return "odd" + string(rune('a'+i)) }

// operandsEnv is an environment with names of all types.
func operandsEnv() []api.Spec {
	l := env("INT i:/BYTE b:/BOOL f:/VAL INT ki IS 1:/VAL BYTE kb IS 'a':/VAL BOOL kf IS TRUE:/INT ai IS i:/BYTE ab IS b:/BOOL af IS f:",
		"[4]INT v:/[5]BYTE w:/[64]BOOL g:/[1]INT one:/CHAN OF INT c:/CHAN OF p cp:/[3]CHAN OF BYTE cc:/[2]CHAN OF p ccp:/TIMER t:",
		"PROTOCOL pp IS INT:/PROC q()/.SKIP/:")
	for i, x := range oddTypes() {
		l = append(l, api.Spec{Kind: api.SpDeclare + api.SpecKind(i%3), Type: x, Names: []string{oddName(i)}})
	}
	return l
}

// operands returns expressions of all types, and some without one.
func operands() (l []operand) {
	for s, want := range map[string]string{
		"1": "INT", "#80000000": "INT", "'a'": "BYTE", "'*#FF'": "BYTE", "TRUE": "BOOL", "FALSE": "BOOL",
		"i": "INT", "b": "BYTE", "f": "BOOL", "ki": "INT", "kb": "BYTE", "kf": "BOOL", "ai": "INT", "ab": "BYTE", "af": "BOOL",
		"v[i]": "INT", "w[0]": "BYTE", "g[63]": "BOOL", "v": "[4]INT", "w": "[5]BYTE", "g": "[64]BOOL", "one": "[1]INT", "one[7]": "INT",
		"c": "CHAN OF INT", "cp": "CHAN OF p", "cc": "[3]CHAN OF BYTE", "ccp": "[2]CHAN OF p", "cc[1]": "CHAN OF BYTE", "ccp[i]": "CHAN OF p", "t": "TIMER",
		"SIZE cc": "INT", "BYTE i": "BYTE", "i < 3": "BOOL", "~ i": "INT",
	} {
		l = append(l, operand{value(s), typ(want), api.OK})
	}
	for i, x := range oddTypes() {
		l = append(l, operand{value(oddName(i)), x, api.OK})
	}
	for s, e := range map[string]api.Errno{"u": api.ErrScope, "u[1]": api.ErrScope, "SIZE u": api.ErrScope, "q": api.ErrTyping, "pp": api.ErrTyping, "c[0]": api.ErrTyping} {
		l = append(l, operand{value(s), api.Type{}, e})
	}
	return l
}

// operatorTable is the chapter's table of operators: the kinds of their operands, which are all equal, and of the result.
var operatorTable = []struct {
	first, last api.Operator
	takes       []api.TypeKind
	gives       api.TypeKind
}{
	{api.OperAdd, api.OperShr, []api.TypeKind{api.TyInt}, api.TyInt},
	{api.OperNeg, api.OperBitNot, []api.TypeKind{api.TyInt}, api.TyInt},
	{api.OperEq, api.OperNe, []api.TypeKind{api.TyInt, api.TyByte, api.TyBool}, api.TyBool},
	{api.OperLt, api.OperGe, []api.TypeKind{api.TyInt, api.TyByte}, api.TyBool},
	{api.OperAnd, api.OperOr, []api.TypeKind{api.TyBool}, api.TyBool},
	{api.OperNot, api.OperNot, []api.TypeKind{api.TyBool}, api.TyBool},
	{api.OperAfter, api.OperAfter, []api.TypeKind{api.TyInt}, api.TyBool},
}

// operation returns the type that an operator has by the table for operands that all have this type.
func operation(o api.Operator, t api.Type) (api.Type, api.Errno) {
	for _, row := range operatorTable {
		if o < row.first || o > row.last {
			continue
		}
		for _, k := range row.takes {
			if t == (api.Type{Kind: k}) {
				return api.Type{Kind: row.gives}, api.OK
			}
		}
	}
	return api.Type{}, api.ErrTyping
}

func checkOutcome(t *testing.T, x api.Expr, l []api.Spec, want api.Type, e api.Errno) {
	t.Helper()
	if e != api.OK {
		checkNoType(t, x, l, e)
		return
	}
	checkType(t, x, l, want)
}

// P13.1: the operands alone.
func TestOperands(t *testing.T) {
	l := operandsEnv()
	for _, a := range operands() {
		checkOutcome(t, a.x, l, a.t, a.e)
	}
}

// P13.1: every operator with one operand, with an operand of every type.
func TestMonadic(t *testing.T) {
	l := operandsEnv()
	for _, a := range operands() {
		for o := api.OperNeg; o <= api.OperNot; o++ {
			want, e := operation(o, a.t)
			if a.e != api.OK {
				e = a.e
			}
			checkOutcome(t, api.Expr{Kind: api.ExMonadic, Oper: o, L: []api.Expr{a.x}}, l, want, e)
		}
	}
}

// P13.1: every operator with two operands, with operands of every two types: the left one's error, the right one's, then that of the whole.
func TestDyadic(t *testing.T) {
	l := operandsEnv()
	for _, a := range operands() {
		for _, b := range operands() {
			for o := api.OperAdd; o <= api.OperAfter; o++ {
				want, e := operation(o, a.t)
				switch {
				case a.e != api.OK:
					want, e = api.Type{}, a.e
				case b.e != api.OK:
					want, e = api.Type{}, b.e
				case a.t != b.t:
					want, e = api.Type{}, api.ErrTyping
				}
				checkOutcome(t, api.Expr{Kind: api.ExDyadic, Oper: o, L: []api.Expr{a.x, b.x}}, l, want, e)
			}
		}
	}
}

func isSimpleType(t api.Type) bool {
	return t == api.Type{Kind: api.TyInt} || t == api.Type{Kind: api.TyByte} || t == api.Type{Kind: api.TyBool}
}

// P13.1: conversions of every type to each simple type.
func TestConversions(t *testing.T) {
	l := operandsEnv()
	for _, a := range operands() {
		for k := api.TyInt; k <= api.TyBool; k++ {
			e := a.e
			if e == api.OK && !isSimpleType(a.t) {
				e = api.ErrTyping
			}
			checkOutcome(t, api.Expr{Kind: api.ExConvert, To: k, L: []api.Expr{a.x}}, l, api.Type{Kind: k}, e)
		}
	}
}

// P13.1: names of every type with every index, and after SIZE. The dimension is checked behind the name and ahead of the index.
func TestElements(t *testing.T) {
	l := operandsEnv()
	for _, a := range operands() {
		if a.x.Kind != api.ExName {
			continue
		}
		e := a.e
		if e == api.OK && a.t.Dim <= 0 {
			e = api.ErrTyping
		}
		checkOutcome(t, api.Expr{Kind: api.ExSize, S: a.x.S}, l, api.Type{Kind: api.TyInt}, e)
		for _, b := range operands() {
			f := e
			if f == api.OK {
				f = b.e
			}
			if f == api.OK && b.t != (api.Type{Kind: api.TyInt}) {
				f = api.ErrTyping
			}
			want := a.t
			want.Dim = 0
			checkOutcome(t, api.Expr{Kind: api.ExIndex, S: a.x.S, L: []api.Expr{b.x}}, l, want, f)
		}
	}
}

// P13.1: the types of some expressions, written out.
func TestTypes(t *testing.T) {
	l := operandsEnv()
	for s, want := range map[string]string{
		"i + 1": "INT", "i - b": "typing", "b + b": "typing", "f + f": "typing", "i * (v[i])": "INT", "i / TRUE": "typing", "i \\ 'a'": "typing",
		"i PLUS ki": "INT", "b PLUS b": "typing", "i MINUS v": "typing", "i TIMES i": "INT", "i /\\ 1": "INT", "f /\\ f": "typing", "i \\/ i": "INT", "i >< i": "INT",
		"i << 1": "INT", "i >> 1": "INT", "b >> 1": "typing", "i = i": "BOOL", "b = 'a'": "BOOL", "f = TRUE": "BOOL", "v = v": "typing", "c = c": "typing", "t = t": "typing",
		"i <> b": "typing", "f <> kf": "BOOL", "i < i": "BOOL", "b > 'a'": "BOOL", "f <= f": "typing", "f >= f": "typing", "w < w": "typing", "i >= i": "BOOL", "b <= b": "BOOL",
		"f AND f": "BOOL", "i AND i": "typing", "f OR i": "typing", "b OR b": "typing", "i AFTER 3": "BOOL", "b AFTER b": "typing", "f AFTER f": "typing",
		"-i": "INT", "-b": "typing", "MINUS i": "INT", "MINUS f": "typing", "~i": "INT", "~b": "typing", "NOT f": "BOOL", "NOT i": "typing", "NOT b": "typing",
		"INT f": "INT", "BOOL i": "BOOL", "BYTE b": "BYTE", "INT v": "typing", "BYTE t": "typing", "BOOL c": "typing", "INT (v[2])": "INT",
		"SIZE v": "INT", "SIZE ccp": "INT", "SIZE c": "typing", "SIZE t": "typing", "SIZE q": "typing", "SIZE pp": "typing", "SIZE u": "scope",
		"v[b]": "typing", "v[f]": "typing", "v[v]": "typing", "v[v[v[i]]]": "INT", "cc[v[0]]": "CHAN OF BYTE", "ccp[SIZE ccp]": "CHAN OF p", "t[0]": "typing",
		"u + q": "scope", "q + u": "typing", "(i + f) + u": "typing", "i + (u + f)": "scope", "f + u": "scope", "b < (f + u)": "scope", "v + u": "scope", "u[q]": "scope", "q[u]": "typing",
		"i[u]": "typing", "v[u]": "scope", "v[q]": "typing", "c[u]": "typing", "BYTE u": "scope", "BYTE q": "typing", "- u": "scope", "NOT q": "typing",
		"(f AND (i < 3)) OR (b = 'x')": "BOOL", "((i + 1) = 2) = ((b <> b) OR f)": "BOOL",
	} {
		checkOf(t, s, l, want)
	}
}
