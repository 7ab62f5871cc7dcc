package eval_test

import (
	"slices"
	"testing"

	"transputer/api"
	"transputer/eval"
)

const million = 1 << 20

// deep returns an expression that has so many operators, one in front of the other.
func deep(n int) api.KExpr {
	x := number(0)
	for range n {
		x = unary(api.OperModNeg, x)
	}
	return x
}

// doubled returns a sum of 2^n numbers.
func doubled(n int) api.KExpr {
	x := number(0)
	for range n {
		x = binary(api.OperPlus, x, x)
	}
	return x
}

// inItself returns an expression that contains itself as the first of so many parts, which the others are, too.
func inItself(x api.KExpr, parts int) api.KExpr {
	l := make([]api.KExpr, parts)
	x.L = l
	for i := range l {
		l[i] = x
	}
	return x
}

// P17.2, P17.3, P0.1, R1: expressions with a million parts, very deep ones, and ones that contain themselves, are not valid.
func TestLargeExpressions(t *testing.T) {
	s := storeOf("0 0; 1")
	leaves := slices.Repeat([]api.KExpr{number(0)}, million)
	for what, x := range map[string]api.KExpr{
		"a million parts":                   {Kind: api.KxDyadic, Oper: api.OperPlus, L: leaves},
		"a million parts of an element":     {Kind: api.KxElem, L: leaves},
		"a million parts of nothing":        {L: leaves},
		"two parts with a million parts":    binary(api.OperPlus, number(0), api.KExpr{Kind: api.KxMonadic, Oper: api.OperNeg, L: leaves}),
		"two to the twentieth parts":        doubled(20),
		"two to the thirty-first parts":     doubled(31),
		"two to the sixtieth parts":         doubled(60),
		"two to the millionth parts":        doubled(million),
		"a million operators":               deep(million),
		"a million operators, second":       binary(api.OperPlus, number(0), deep(million)),
		"an operator of itself":             inItself(unary(api.OperModNeg, number(0)), 1),
		"an index of itself":                inItself(elem(0, number(0)), 1),
		"a conversion of itself":            inItself(convert(api.TyInt, number(0)), 1),
		"a sum of itself":                   inItself(binary(api.OperPlus, number(0), number(0)), 2),
		"a truth of itself":                 inItself(binary(api.OperAnd, number(0), number(0)), 2),
		"an expression with itself a lot":   inItself(binary(api.OperPlus, number(0), number(0)), 1000),
		"itself, not needed":                binary(api.OperAnd, number(0), inItself(unary(api.OperNot, number(0)), 1)),
		"itself, not needed but for a sum":  binary(api.OperOr, number(1), inItself(binary(api.OperPlus, number(0), number(0)), 2)),
		"a million operators, not needed":   binary(api.OperAnd, number(0), deep(million)),
		"a million parts, not needed":       binary(api.OperOr, number(1), api.KExpr{Kind: api.KxDyadic, Oper: api.OperPlus, L: leaves}),
		"an element whose index is so deep": elem(0, deep(million)),
	} {
		if v, ok := eval.Value(s, x); v != 0 || ok {
			t.Errorf("%s: %d, %t", what, v, ok)
		}
		for _, p := range []api.KPlace{{Index: []api.KExpr{x}}, {Index: []api.KExpr{x, x}}, {V: -1, Index: []api.KExpr{x}}} {
			if v, i, ok := eval.Place(s, p); v != 0 || i != 0 || ok {
				t.Errorf("the place at %s: %d, %d, %t", what, v, i, ok)
			}
		}
	}
	if v, i, ok := eval.Place(s, api.KPlace{Index: leaves}); v != 0 || i != 0 || ok {
		t.Errorf("a million indices: %d, %d, %t", v, i, ok)
	}
	checkValue(t, s, doubled(7), 0)
	checkValue(t, s, deep(31), 0)
}

// P17.1, P17.2, P17.3, R1: stores with a million lists, and a million elements.
func TestLargeStores(t *testing.T) {
	numbers := make([]int32, million)
	lists := make([][]int32, million)
	for i := range numbers {
		numbers[i] = int32(i)
		lists[i] = numbers[i : i+1]
	}
	long := [][]int32{numbers, {million - 1}}
	checkValue(t, long, kexpr("v0[v1]"), million-1)
	checkFault(t, long, kexpr("v0[v1 + 1]"))
	checkPlace(t, long, api.KPlace{Index: []api.KExpr{variable(1)}}, 0, million-1, true)
	checkValue(t, lists, variable(255), 255)
	checkFault(t, lists, variable(256))
	checkPlace(t, lists, api.KPlace{V: million - 1}, million-1, 0, true)
	checkPlace(t, lists, api.KPlace{V: million}, 0, 0, false)
	for _, s := range [][][]int32{long, lists} {
		last := len(s) - 1
		changed := eval.Put(s, last, 0, -5)
		if changed[last][0] != -5 || s[last][0] != million-1 || len(changed) != len(s) || eval.Same(s, changed) {
			t.Error("a large store is not changed, or itself is")
		}
		if !eval.Same(eval.Put(s, last, 1, 0), s) || eval.Same(s, s[:last]) {
			t.Error("a large store is not the same as its copy, or as a part of it")
		}
		checkMay(t, kernelOf("INT INT"), s, false)
	}
	many := api.Kernel{Vars: slices.Repeat([]api.Var{{Kind: api.TyInt}}, million)}
	checkMay(t, many, lists, false)
	if s := eval.Store(many); s != nil {
		t.Error("a store of a million variables:", brief(s))
	}
	checkMay(t, api.Kernel{Vars: []api.Var{{Kind: api.TyInt, Dim: million}}}, [][]int32{numbers}, false)
	if s := eval.Store(api.Kernel{Vars: []api.Var{{Kind: api.TyInt, Dim: 1<<63 - 1}}}); s != nil {
		t.Error("a store of too many elements:", brief(s))
	}
}
