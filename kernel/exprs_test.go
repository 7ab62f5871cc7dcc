package kernel_test

import (
	"slices"
	"strings"
	"testing"

	"transputer/api"
	"transputer/kernel"
)

// someVars are a variable and an array of each kind.
const someVars = "INT BYTE BOOL [4]INT [64]BYTE [1]BOOL"

// fittingOf returns the letters I, Y and L of the kinds INT, BYTE and BOOL that an expression fits.
func fittingOf(x api.KExpr) (s string) {
	for i, letter := range []string{"I", "Y", "L"} {
		k := kernelOf(someVars, 2, "skip")
		k.Root = api.KProc{Kind: api.KpAssign, To: []api.KPlace{{V: i}}, E: []api.KExpr{x}}
		if kernel.May(k) {
			s += letter
		}
	}
	return s
}

func checkFitting(t *testing.T, want string, exprs ...string) {
	t.Helper()
	for _, s := range exprs {
		if got := fittingOf(kexpr(s)); got != want {
			t.Errorf("%s fits %q, not %q", s, got, want)
		}
	}
}

// P16.1: which kinds numbers, variables and elements fit.
func TestLeaves(t *testing.T) {
	checkFitting(t, "IYL", "0", "1")
	checkFitting(t, "IY", "2", "127", "128", "254", "255")
	checkFitting(t, "I", "256", "-1", "-2", "257", "2147483647", "-2147483648", "v0", "v3[0]", "v3[v0]", "v3[v3[v3[-1]]]", "v3[4]", "v3[INT v1]")
	checkFitting(t, "Y", "v1", "v4[0]", "v4[v0 + 1]", "v4[v3[v0]]")
	checkFitting(t, "L", "v2", "v5[0]", "v5[v0]", "v5[2147483647]")
	checkFitting(t, "", "v3", "v4", "v5", "v6", "v255", "v256", "v6[0]", "v0[0]", "v1[0]", "v2[0]", "v3[v1]", "v3[v2]", "v3[v3]", "v3[0 = 0]", "v3[BYTE 0]", "v4[v4[0]]", "v3[v6]", "v-1", "v-1[0]", "v3[v-1]")
}

// P16.1: which kinds operators and conversions fit.
func TestOperatorFits(t *testing.T) {
	checkFitting(t, "I", "v0 + 1", "1 - 1", "v0 * v3[0]", "256 / 0", "v0 \\ v0", "v0 PLUS 1", "0 MINUS 1", "0 TIMES 0", "v0 /\\ 1", "v0 \\/ 1", "v0 >< v0", "1 << 2", "v0 >> 1", "- 1", "- v0", "MINUS 0", "~ 1", "~ v0", "(v0 + 1) * (- v0)")
	checkFitting(t, "L", "v0 = 1", "v1 = v4[2]", "v2 = v5[0]", "v2 = 1", "v1 = 255", "v0 <> 256", "v1 <> v1", "v2 <> v2", "(v0 = 1) = (v0 = 2)", "0 = 1", "v0 < v0", "v1 < v1", "1 > 0", "v1 > 9", "v0 <= 1", "v1 <= 0", "v0 >= 0", "255 >= v1", "v2 AND v2", "0 OR 1", "v5[0] OR v2", "1 AND (v0 < 1)", "v0 AFTER 1", "256 AFTER 0", "NOT v2", "NOT 0", "NOT 1", "NOT (NOT v2)")
	checkFitting(t, "", "v0 + v1", "v1 + v1", "v2 + v2", "v1 PLUS 1", "1 + (1 = 1)", "- v1", "- v2", "~ v1", "~ v2", "MINUS v2", "MINUS (1 = 1)", "v0 = v1", "v1 = 256", "v2 = 2", "v1 = -1", "v0 = v2", "v1 <> v2", "v2 < v2", "v2 > 0", "v2 <= v2", "(1 = 1) >= v2", "v0 < v1", "v1 < 256", "v1 > -1", "v0 AND v2", "v2 OR v0", "v1 AND v1", "2 AND v2", "v2 AND 2", "v0 AND v0", "v1 AFTER v1", "v2 AFTER 1", "v2 AFTER v2", "NOT v0", "NOT v1", "NOT 2", "NOT -1", "v3 + 1", "v3 = v3", "NOT v5", "v6 = v6")
	checkFitting(t, "I", "INT v0", "INT v1", "INT v2", "INT 256", "INT -1", "INT (v0 = 1)", "INT (INT v2)", "INT v5[0]")
	checkFitting(t, "Y", "BYTE v0", "BYTE v1", "BYTE v2", "BYTE 256", "BYTE -1", "BYTE (v0 + 1)", "BYTE v4[0]")
	checkFitting(t, "L", "BOOL v0", "BOOL v1", "BOOL v2", "BOOL 256", "BOOL -1", "BOOL (BYTE v0)")
	checkFitting(t, "", "INT v3", "BYTE v4", "BOOL v5", "INT v6", "BYTE (v0 + v1)", "BOOL (NOT v0)", "INT v0[0]")
}

func unary(o api.Operator, x api.KExpr) api.KExpr {
	return api.KExpr{Kind: api.KxMonadic, Oper: o, L: []api.KExpr{x}}
}

func binary(o api.Operator, x, y api.KExpr) api.KExpr {
	return api.KExpr{Kind: api.KxDyadic, Oper: o, L: []api.KExpr{x, y}}
}

// P16.1: all numbers of operators and of kinds, with all sorts of operands.
func TestAllOperators(t *testing.T) {
	var operands []api.KExpr
	for s := range strings.FieldsSeq("v0 v1 v2 v3 v4[0] v5[0] 0 2 256 -1 v6") {
		operands = append(operands, kexpr(s))
	}
	r := rules{kernelOf(someVars, 2, "skip").Vars, 2}
	check := func(x api.KExpr) {
		t.Helper()
		want := ""
		for i, k := range values {
			if r.fits(x, k) {
				want += "IYL"[i : i+1]
			}
		}
		if got := fittingOf(x); got != want {
			t.Errorf("%v fits %q, not %q", x, got, want)
		}
	}
	for n := range 256 {
		o := api.Operator(n)
		for _, x := range operands {
			check(unary(o, x))
			check(api.KExpr{Kind: api.KxConvert, To: api.TypeKind(n), L: []api.KExpr{x}})
			check(api.KExpr{Kind: api.KExprKind(n), V: 3, L: []api.KExpr{x}})
			for _, y := range operands {
				check(binary(o, x, y))
			}
		}
		check(api.KExpr{Kind: api.KExprKind(n)})
		check(api.KExpr{Kind: api.KExprKind(n), L: []api.KExpr{operands[0], operands[0]}})
	}
}

// deep returns a sum that is so deep, of so many expressions.
func deep(depth, size int) api.KExpr {
	x := kexpr("v0")
	for i := range depth - 1 {
		x = unary(api.OperNeg, x)
		if left := size - 1; i == depth-2 && left > depth-1 {
			x = binary(api.OperAdd, balanced(left-(depth-1)), x.L[0])
		}
	}
	return x
}

// balanced returns a sum of so many expressions that is no deeper than it must be.
func balanced(size int) api.KExpr {
	switch {
	case size == 1:
		return kexpr("v0")
	case size%2 == 0:
		return unary(api.OperNeg, balanced(size-1))
	}
	half := (size - 1) / 2
	return binary(api.OperAdd, balanced(half), balanced(size-1-half))
}

// P16.1: expressions at their limits and beyond, wherever an expression can be.
func TestExprLimits(t *testing.T) {
	for _, c := range []struct {
		depth, size int
		ok          bool
	}{{1, 1, true}, {31, 31, true}, {32, 32, true}, {33, 33, false}, {32, 255, true}, {32, 256, true}, {32, 257, false}, {33, 256, false}, {20, 256, true}, {20, 257, false}} {
		x := deep(c.depth, c.size)
		if exprDepth(x) != c.depth || exprSize(x) != c.size {
			t.Fatal(exprDepth(x), exprSize(x), c)
		}
		element := api.KExpr{Kind: api.KxElem, V: 3, L: []api.KExpr{x}}
		for what, root := range map[string]api.KProc{
			"value":  {Kind: api.KpAssign, To: []api.KPlace{{V: 0}}, E: []api.KExpr{x}},
			"second": {Kind: api.KpAssign, To: []api.KPlace{{V: 0}, {V: 0}}, E: []api.KExpr{x, x}},
			"index":  {Kind: api.KpAssign, To: []api.KPlace{{V: 3, Index: []api.KExpr{x}}}, E: []api.KExpr{kexpr("1")}},
			"out":    {Kind: api.KpOut, C: 1, Item: api.TyInt, E: []api.KExpr{x}},
			"after":  {Kind: api.KpAfter, E: []api.KExpr{x}},
			"time":   {Kind: api.KpAlt, Guards: []api.KGuard{{Kind: api.GuAfter, Cond: kexpr("1"), Time: x, Body: []api.KProc{{Kind: api.KpSkip}}}}},
		} {
			if k := kernelOf(someVars, 2, "skip"); kernel.May(api.Kernel{Vars: k.Vars, Chans: k.Chans, Root: root}) != c.ok {
				t.Errorf("%s %v: not %v", what, c, c.ok)
			}
		}
		if one := c.ok && c.depth < 32 && c.size < 256; (fittingOf(element) == "I") != one {
			t.Errorf("element %v: not %v", c, one)
		}
		cond := binary(api.OperEq, x, kexpr("1"))
		for _, root := range []api.KProc{
			{Kind: api.KpWhile, E: []api.KExpr{cond}, L: []api.KProc{{Kind: api.KpSkip}}},
			{Kind: api.KpIf, Guards: []api.KGuard{{Kind: api.GuIf, Cond: cond, Body: []api.KProc{{Kind: api.KpSkip}}}}},
		} {
			if k := kernelOf(someVars, 2, "skip"); kernel.May(api.Kernel{Vars: k.Vars, Chans: k.Chans, Root: root}) != (c.ok && c.depth < 32 && c.size < 255) {
				t.Errorf("condition %v", c)
			}
		}
	}
}

// P16.1: a part that is not valid makes the whole not valid, wherever it is.
func TestExprParts(t *testing.T) {
	for _, bad := range []api.KExpr{{}, {Kind: api.KxConvert + 1}, {Kind: api.KxNumber, V: 1}, {Kind: api.KxVar, N: 1}, {Kind: api.KxNumber, L: []api.KExpr{kexpr("1")}}, {Kind: api.KxElem, V: 3}} {
		for _, s := range []string{"- v0", "v0 + 1", "1 + v0", "v3[v0]", "INT v0", "v3[1 + v3[v0]]", "(- v0) + 1", "1 + (INT v0)"} {
			x := kexpr(s)
			replaced := false
			for y := &x; !replaced; {
				i := slices.IndexFunc(y.L, func(z api.KExpr) bool { return z.Kind != api.KxNumber })
				if i < 0 {
					*y, replaced = bad, true
				} else {
					y = &y.L[i]
				}
			}
			if got := fittingOf(x); got != "" {
				t.Errorf("%v fits %s", x, got)
			}
		}
	}
}
