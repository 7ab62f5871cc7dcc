package fold_test

import (
	"fmt"
	"strings"
	"testing"

	"transputer/api"
	"transputer/expr"
	"transputer/fold"
	"transputer/lex"
	"transputer/syntax"
)

const (
	least = -1 << 31
	most  = 1<<31 - 1
)

// value returns the expression of a text.
func value(s string) api.Expr {
	l, _, e := lex.Tokens(s)
	if e != api.OK {
		panic(fmt.Sprintf("%s: %v", s, e))
	}
	x, n, e := expr.Front(l)
	if e != api.OK || n != len(l) {
		panic(fmt.Sprintf("%s: %v", s, e))
	}
	return x
}

// env returns the specifications of a text, in which rows are separated by / and their depth is the number of dots in front.
func env(s string) (l []api.Spec) {
	var rows []api.Row
	for i, x := range strings.Split(s+"/SKIP", "/") {
		text := strings.TrimLeft(x, ".")
		rows = append(rows, api.Row{No: i + 1, Depth: len(x) - len(text), Text: text})
	}
	p, row, e := syntax.Parse(rows)
	if e != api.OK {
		panic(fmt.Sprintf("row %d of %s: %v", row, s, e))
	}
	for ; p.Kind == api.PrSpec; p = p.L[0] {
		l = append(l, p.Spec)
	}
	return l
}

// spec returns a specification of any kind, valid or not.
func spec(k api.SpecKind, t api.TypeKind, e api.Expr, names ...string) api.Spec {
	return api.Spec{Kind: k, Type: api.Type{Kind: t}, E: e, Names: names}
}

// array returns a declaration with a dimension.
func array(dim int, names ...string) api.Spec {
	return api.Spec{Kind: api.SpDeclare, Type: api.Type{Kind: api.TyInt, Dim: dim}, Names: names}
}

func number(n int32) api.Expr { return api.Expr{Kind: api.ExNumber, N: n} }

func binary(o api.Operator, a, b api.Expr) api.Expr {
	return api.Expr{Kind: api.ExDyadic, Oper: o, L: []api.Expr{a, b}}
}

func unary(o api.Operator, a api.Expr) api.Expr {
	return api.Expr{Kind: api.ExMonadic, Oper: o, L: []api.Expr{a}}
}

// exprText returns a text of an expression.
func exprText(x api.Expr) string {
	l, e := expr.Tokens(x)
	if e == api.OK {
		if s, e := lex.Text(l); e == api.OK {
			return s
		}
	}
	return fmt.Sprintf("%.300s", fmt.Sprint(x))
}

// briefly returns a text of what is innermost in an environment.
func briefly(l []api.Spec) string {
	var b strings.Builder
	fmt.Fprintf(&b, "%d specifications", len(l))
	for _, s := range l[max(0, len(l)-20):] {
		fmt.Fprintf(&b, "; %d of %.40q, %v, %.80s", s.Kind, fmt.Sprint(s.Names), s.Type, exprText(s.E))
	}
	return b.String()
}

func checkValue(t *testing.T, x api.Expr, l []api.Spec, want int32) {
	t.Helper()
	if v, e := fold.Const(x, l); v != want || e != api.OK {
		t.Errorf("Const(%s) = %d, %d, not %d; with %s", exprText(x), v, e, want, briefly(l))
	}
}

func checkNone(t *testing.T, x api.Expr, l []api.Spec) {
	t.Helper()
	if v, e := fold.Const(x, l); v != 0 || e != api.ErrConst {
		t.Errorf("Const(%s) = %d, %d, not the error %d; with %s", exprText(x), v, e, api.ErrConst, briefly(l))
	}
}

// checkConst checks Const of texts, each with its value, or without one if that is none.
func checkConst(t *testing.T, l []api.Spec, values map[string]int32, none ...string) {
	t.Helper()
	for s, want := range values {
		checkValue(t, value(s), l, want)
	}
	for _, s := range none {
		checkNone(t, value(s), l)
	}
}

func checkFold(t *testing.T, x api.Expr, l []api.Spec, want api.Expr) {
	t.Helper()
	if y, e := fold.Fold(x, l); e != api.OK || !expr.Same(y, want) {
		t.Errorf("Fold(%s) = %s, %d, not %s; with %s", exprText(x), exprText(y), e, exprText(want), briefly(l))
	}
}

// checkFolds checks Fold of texts, each with the text of its result.
func checkFolds(t *testing.T, l []api.Spec, results map[string]string) {
	t.Helper()
	for s, want := range results {
		checkFold(t, value(s), l, value(want))
	}
}

// P14.1, P14.2, P14.3: the examples of the chapter.
func TestExamples(t *testing.T) {
	for _, c := range []applied{
		{api.OperRem, -7, 2, -1, true}, {api.OperAdd, most, 1, 0, false}, {api.OperPlus, most, 1, least, true}, {api.OperDiv, least, -1, 0, false}, {api.OperRem, least, -1, 0, true},
		{api.OperNeg, least, 0, 0, false}, {api.OperAnd, 1, 2, 0, false}, {api.OperShl, 1, 32, 0, true}, {api.OperAfter, least, most, 1, true},
	} {
		checkApply(t, c)
	}
	n := env("VAL INT n IS 3:")
	checkConst(t, n, map[string]int32{"n * n": 9})
	checkFolds(t, n, map[string]string{"x + (n * n)": "x + 9"})
	checkConst(t, env("VAL INT x IS 5:/VAL INT x IS x + 1:"), map[string]int32{"x": 6})
	checkConst(t, env("VAL INT x IS 5:/INT x:"), nil, "x", "SIZE x")
	checkConst(t, env("[7]INT v:"), map[string]int32{"SIZE v": 7}, "v[0]")
	checkConst(t, nil, nil, "1 / 0", "FALSE AND ((1 / 0) = 1)", "BYTE 256")
}
