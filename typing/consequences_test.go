package typing_test

import (
	"slices"
	"testing"

	"transputer/api"
	"transputer/expr"
	"transputer/typing"
)

// inside returns the expressions in x: a name before brackets or after SIZE is none.
func inside(x api.Expr) []api.Expr {
	l := []api.Expr{x}
	for _, y := range x.L {
		l = append(l, inside(y)...)
	}
	return l
}

// P13.3: each expression in an expression of a simple type has a simple type.
func TestSimpleParts(t *testing.T) {
	parts := 0
	someExprs(3, 20000, func(x api.Expr, l []api.Spec, next func(int) int) {
		if whole, e := typing.Of(x, l); e != api.OK || !isSimpleType(whole) {
			return
		}
		for _, y := range inside(x) {
			parts++
			if part, e := typing.Of(y, l); e != api.OK || !isSimpleType(part) {
				t.Errorf("%s in %s: %+v, %d", exprText(y), exprText(x), part, e)
			}
		}
	})
	if parts < 10000 {
		t.Error("too few parts:", parts)
	}
}

// innermost returns the index of the specification of a name, or -1.
func innermost(name string, l []api.Spec) int {
	for i, s := range slices.Backward(l) {
		if slices.Contains(s.Names, name) {
			return i
		}
	}
	return -1
}

// P13.3: the type of an expression depends only on the specifications of the names in it.
func TestOtherSpecifications(t *testing.T) {
	someExprs(4, 5000, func(x api.Expr, l []api.Spec, next func(int) int) {
		var needed []int
		for _, name := range expr.Names(x) {
			needed = append(needed, innermost(name, l))
		}
		var other []api.Spec
		for i, s := range l {
			if slices.Contains(needed, i) {
				s.E, s.Body, s.Formals = value("u"), nil, nil
				other = append(other, s)
				continue
			}
			switch next(3) {
			case 0:
				other = append(other, named(pick(next, kinds), pick(next, oddTypes()), s.Names...))
			case 1:
				other = append(other, s)
			}
		}
		want, e := typing.Of(x, l)
		checkOutcome(t, x, other, want, e)
		checkOutcome(t, x, append(other, named(pick(next, kinds), pick(next, oddTypes()), "zz", "X")), want, e)
	})
}

// unused returns a specification of names that do not occur anywhere.
func unused(next func(int) int) api.Spec {
	s := named(pick(next, kinds), pick(next, append(oddTypes(), typ("INT"), typ("CHAN OF p"))), pick(next, [][]string{nil, {"zz"}, {"zz", "yy"}, {"I", "vv"}})...)
	if next(2) == 0 {
		s.Proto = env("PROTOCOL zz IS INT:")[0].Proto
	}
	return s
}

// P13.3: a specification whose names do not occur changes nothing, be it added outside or elsewhere.
func TestUnusedSpecifications(t *testing.T) {
	someExprs(5, 3000, func(x api.Expr, l []api.Spec, next func(int) int) {
		want, e := typing.Of(x, l)
		checkOutcome(t, x, append([]api.Spec{unused(next), unused(next)}, l...), want, e)
		checkOutcome(t, x, slices.Insert(l, next(len(l)+1), unused(next)), want, e)
	})
	someProcesses(6, 3000, func(p api.Process, l []api.Spec, next func(int) int) {
		e := typing.Check(p, l)
		checkProcess(t, p, append([]api.Spec{unused(next), unused(next)}, l...), e)
		checkProcess(t, p, slices.Insert(l, next(len(l)+1), unused(next)), e)
	})
}

// P13.3: what hides the protocol of a channel where it is used changes nothing, nor does what hides that of an expression.
func TestHiddenProtocols(t *testing.T) {
	someExprs(7, 2000, func(x api.Expr, l []api.Spec, next func(int) int) {
		want, e := typing.Of(x, l)
		if !slices.Contains(expr.Names(x), "p") && !slices.Contains(expr.Names(x), "s") {
			checkOutcome(t, x, append(l, env("PROTOCOL p IS BOOL:/INT s:")...), want, e)
		}
	})
	l := env("PROTOCOL p IS INT; BYTE:/CHAN OF p c:/[2]CHAN OF p cc:/PROC q(CHAN OF p x, [2]CHAN OF p y)/.SKIP/:")
	for _, hiding := range []string{"INT p:", "PROTOCOL p IS INT; BYTE:", "PROTOCOL p/.CASE/..c; INT/:", "CHAN OF INT p:", "PROC p()/.SKIP/:"} {
		for _, s := range []string{"c ! 1; 'a'", "cc[0] ! 1; 'a'", "q(c, cc)", "q(cc[1], cc)", "INT i:/BYTE b:/c ? i; b", "INT i:/BYTE b:/ALT/.cc[1] ? i; b/..SKIP"} {
			checkAll(t, append(l[:4:4], env(hiding)...), api.OK, s)
			checkAll(t, l, api.OK, hiding+"/"+s)
		}
	}
}
