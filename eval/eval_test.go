package eval_test

import (
	"testing"

	"transputer/api"
	"transputer/eval"
)

func checkValue(t *testing.T, s [][]int32, x api.KExpr, want int32) {
	t.Helper()
	if v, ok := eval.Value(s, x); v != want || !ok {
		t.Errorf("Value(%s, %s) = %d, %t, not %d", brief(s), brief(x), v, ok, want)
	}
}

// checkFault checks that an expression has a fault, or is not valid.
func checkFault(t *testing.T, s [][]int32, x api.KExpr) {
	t.Helper()
	if v, ok := eval.Value(s, x); v != 0 || ok {
		t.Errorf("Value(%s, %s) = %d, %t, not a fault", brief(s), brief(x), v, ok)
	}
}

func checkValues(t *testing.T, s [][]int32, values map[string]int32) {
	t.Helper()
	for x, v := range values {
		checkValue(t, s, kexpr(x), v)
	}
}

func checkFaults(t *testing.T, s [][]int32, exprs ...string) {
	t.Helper()
	for _, x := range exprs {
		checkFault(t, s, kexpr(x))
	}
}

func checkPlace(t *testing.T, s [][]int32, p api.KPlace, wantV, wantI int, want bool) {
	t.Helper()
	if v, i, ok := eval.Place(s, p); v != wantV || i != wantI || ok != want {
		t.Errorf("Place(%s, %s) = %d, %d, %t, not %d, %d, %t", brief(s), brief(p), v, i, ok, wantV, wantI, want)
	}
}

func checkStore(t *testing.T, what string, got, want [][]int32) {
	t.Helper()
	if !sameByRules(got, want) {
		t.Errorf("%s: %s, not %s", what, brief(got), brief(want))
	}
}

func checkMay(t *testing.T, k api.Kernel, s [][]int32, want bool) {
	t.Helper()
	if eval.May(k, s) != want {
		t.Errorf("May(%s, %s) = %t", brief(k), brief(s), !want)
	}
}

func checkSame(t *testing.T, a, b [][]int32, want bool) {
	t.Helper()
	if eval.Same(a, b) != want || eval.Same(b, a) != want {
		t.Errorf("Same(%s, %s) = %t, %t", brief(a), brief(b), eval.Same(a, b), eval.Same(b, a))
	}
}

// P17.1, P17.2, P17.3: the examples of the chapter.
func TestExamples(t *testing.T) {
	s := storeOf("7; 1 2 3")
	checkValues(t, s, map[string]int32{"v1[v0 - 5]": 3, "(v0 = 0) AND ((1 / (v0 - 7)) = 1)": 0})
	checkFaults(t, s, "v1[v0]", "(v0 = 7) AND ((1 / (v0 - 7)) = 1)", "BYTE (v0 TIMES 40)", "BOOL v0", "v2", "5 AND 1")

	k := kernelOf("INT [3]BOOL")
	checkStore(t, "Store", eval.Store(k), storeOf("0; 0 0 0"))
	checkMay(t, kernelOf("BYTE"), storeOf("256"), false)
	checkMay(t, kernelOf("BYTE"), storeOf("255"), true)

	s = storeOf("5 6 7")
	checkFault(t, s, kexpr("v0[3]"))
	checkPlace(t, s, api.KPlace{V: 0, Index: []api.KExpr{number(2)}}, 0, 2, true)
	checkStore(t, "Put", eval.Put(s, 0, 1, 9), storeOf("5 9 7"))
}
