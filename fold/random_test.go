package fold_test

import (
	"slices"
	"testing"

	"transputer/api"
	"transputer/expr"
	"transputer/fold"
)

// random returns numbers in a fixed order without a pattern.
func random(seed uint32) func(n int) int {
	return func(n int) int {
		seed = seed*1664525 + 1013904223
		return int(seed>>9) % n
	}
}

func pick[T any](next func(int) int, l []T) T { return l[next(len(l))] }

var someNames = []string{"a", "b", "c", "x", "y", "v"}

// anyExpr returns a valid expression.
func anyExpr(next func(int) int, depth int) api.Expr {
	kind := pick(next, []api.ExprKind{api.ExNumber, api.ExNumber, api.ExByte, api.ExBool, api.ExName, api.ExName, api.ExName, api.ExSize})
	if depth > 0 && next(5) > 0 {
		kind = pick(next, []api.ExprKind{api.ExMonadic, api.ExDyadic, api.ExDyadic, api.ExDyadic, api.ExConvert, api.ExIndex})
	}
	part := func() api.Expr { return anyExpr(next, depth-1) }
	x := api.Expr{Kind: kind}
	switch kind {
	case api.ExNumber:
		x.N = pick(next, []int32{0, 1, 2, 3, -1, 64, 256, most, least})
	case api.ExByte:
		x.N = pick(next, []int32{0, 1, 2, 255})
	case api.ExBool:
		x.N = int32(next(2))
	case api.ExMonadic:
		x.Oper, x.L = api.OperNeg+api.Operator(next(4)), []api.Expr{part()}
	case api.ExDyadic:
		x.Oper, x.L = api.OperAdd+api.Operator(next(22)), []api.Expr{part(), part()}
	case api.ExConvert:
		x.To, x.L = api.TyInt+api.TypeKind(next(3)), []api.Expr{part()}
	case api.ExIndex:
		x.S, x.L = pick(next, someNames), []api.Expr{part()}
	default:
		x.S = pick(next, someNames)
	}
	return x
}

// anySpec returns a specification, valid or not.
func anySpec(next func(int) int) api.Spec {
	s := api.Spec{Kind: pick(next, []api.SpecKind{api.SpVal, api.SpVal, api.SpVal, api.SpVal, api.SpDeclare, api.SpDeclare, api.SpIs, api.SpProc, 77})}
	s.Type = api.Type{Kind: api.TypeKind(next(5)), Dim: pick(next, []int{0, 0, 1, 7, -1, most, most + 1})}
	for range pick(next, []int{0, 1, 1, 1, 1, 2, 3}) {
		s.Names = append(s.Names, pick(next, someNames))
	}
	s.E = anyExpr(next, next(4))
	if next(20) == 0 {
		s.E.N, s.E.S = 300, "?"
	}
	return s
}

func anyEnv(next func(int) int) (l []api.Spec) {
	for range next(1 + next(9)) {
		l = append(l, anySpec(next))
	}
	return l
}

// specified returns the specification of a name, those before it, and whether there is one.
func specified(name string, l []api.Spec) (s api.Spec, before []api.Spec, ok bool) {
	for i, s := range slices.Backward(l) {
		if slices.Contains(s.Names, name) {
			return s, l[:i], true
		}
	}
	return api.Spec{}, nil, false
}

// valueByRules returns the value of an expression by the chapter's list, and whether there is one.
func valueByRules(x api.Expr, l []api.Spec) (int32, bool) {
	switch x.Kind {
	case api.ExNumber, api.ExByte, api.ExBool:
		return x.N, true
	case api.ExName:
		s, before, _ := specified(x.S, l)
		if s.Kind != api.SpVal || !expr.May(s.E) {
			return 0, false
		}
		return valueByRules(s.E, before)
	case api.ExSize:
		s, _, _ := specified(x.S, l)
		return int32(s.Type.Dim), s.Kind == api.SpDeclare && 1 <= s.Type.Dim && s.Type.Dim <= most
	case api.ExIndex:
		return 0, false
	}
	operands := []int32{0, 0}
	for i, y := range x.L {
		v, ok := valueByRules(y, l)
		if !ok {
			return 0, false
		}
		operands[i] = v
	}
	v := operands[0]
	if x.Kind == api.ExConvert {
		return v, x.To == api.TyInt || x.To == api.TyByte && 0 <= v && v <= 255 || x.To == api.TyBool && isTruth(int64(v))
	}
	return applyByRules(x.Oper, v, operands[1])
}

// literalByRules returns the literal of an expression with a value, by the chapter's text.
func literalByRules(x api.Expr, v int32, l []api.Spec) api.Expr {
	s, _, _ := specified(x.S, l)
	is := func(k api.ExprKind, t api.TypeKind) bool {
		return x.Kind == k || x.Kind == api.ExConvert && x.To == t || x.Kind == api.ExName && s.Type.Kind == t
	}
	truths := []api.Operator{api.OperEq, api.OperNe, api.OperLt, api.OperGt, api.OperLe, api.OperGe, api.OperAnd, api.OperOr, api.OperAfter, api.OperNot}
	switch {
	case is(api.ExByte, api.TyByte):
		return literal(api.ExByte, v)
	case is(api.ExBool, api.TyBool) || slices.Contains(truths, x.Oper):
		return literal(api.ExBool, v)
	}
	return number(v)
}

// foldByRules returns what Fold returns for a valid expression.
func foldByRules(x api.Expr, l []api.Spec) api.Expr {
	if v, ok := valueByRules(x, l); ok && expr.May(literalByRules(x, v, l)) {
		return literalByRules(x, v, l)
	}
	parts := slices.Clone(x.L)
	for i := range parts {
		parts[i] = foldByRules(parts[i], l)
	}
	x.L = parts
	return x
}

// some calls f with many expressions and environments.
func some(seed uint32, n int, f func(x api.Expr, l []api.Spec, next func(int) int)) {
	next := random(seed)
	for range n {
		x := anyExpr(next, 1+next(6))
		for expr.Size(x) > api.MaxExpr {
			x = x.L[0]
		}
		f(x, anyEnv(next), next)
	}
}

// checkSame checks that the value of x, or that it has none, is that of y.
func checkSame(t *testing.T, x, y api.Expr, l []api.Spec) {
	t.Helper()
	v, e := fold.Const(x, l)
	if w, f := fold.Const(y, l); v != w || e != f {
		t.Errorf("Const(%s) = %d, %d; Const(%s) = %d, %d; with %s", exprText(x), v, e, exprText(y), w, f, briefly(l))
	}
}

// P14.2, P14.3: Const and Fold return what the chapter's rules say.
func TestRules(t *testing.T) {
	values, folded := 0, 0
	some(1, 40000, func(x api.Expr, l []api.Spec, next func(int) int) {
		if want, ok := valueByRules(x, l); ok {
			values++
			checkValue(t, x, l, want)
		} else {
			checkNone(t, x, l)
		}
		want := foldByRules(x, l)
		checkFold(t, x, l, want)
		folded += int(one(len(want.L) > 0 && !expr.Same(x, want)))
	})
	t.Log(values, folded)
	if values < 5000 || folded < 5000 {
		t.Error("too few values, or folded parts:", values, folded)
	}
}

// P14.4: folding what has been folded changes nothing.
func TestFoldTwice(t *testing.T) {
	some(2, 20000, func(x api.Expr, l []api.Spec, next func(int) int) {
		y, _ := fold.Fold(x, l)
		checkFold(t, y, l, y)
		if !expr.May(y) || expr.Size(y) > expr.Size(x) {
			t.Errorf("Fold(%s) = %s", exprText(x), exprText(y))
		}
	})
}

// P14.4: folding does not change the value, neither where it has been done nor where other names have been added.
func TestFoldedValues(t *testing.T) {
	changed := 0
	some(3, 20000, func(x api.Expr, l []api.Spec, next func(int) int) {
		y, _ := fold.Fold(x, l)
		checkSame(t, x, y, l)
		longer := slices.Clone(l)
		for range 3 {
			s := anySpec(next)
			s.Names = slices.DeleteFunc(s.Names, func(name string) bool { _, _, is := specified(name, l); return is })
			longer = append(longer, s)
		}
		checkSame(t, x, y, longer)
		_, before := valueByRules(x, l)
		_, now := valueByRules(x, longer)
		changed += int(one(before != now))
	})
	if changed < 150 {
		t.Error("too few expressions get a value by other names:", changed)
	}
}
