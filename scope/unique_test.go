package scope_test

import (
	"fmt"
	"strings"
	"testing"

	"transputer/api"
	"transputer/scope"
)

// checkNew checks the new names in the rows, and what P12.3 says of them.
func checkNew(t *testing.T, s, want string) {
	t.Helper()
	p, q := proc(s), proc(want)
	checkUnique(t, p, q)
	checkUnique(t, q, q)
	checkAlike(t, p, q, true)
	free, _ := scope.Free(p)
	checkFree(t, q, strings.Join(free, " "))
}

// P12.1: every place at which a name can be declared, where it is used in its own specification, in its scope, and beside it.
func TestScopes(t *testing.T) {
	for _, c := range [][2]string{
		{"SEQ/.INT x:/.x := y/.x := z", "SEQ/.INT n1:/.n1 := y/.x := z"},
		{"SEQ/.x := 1/.INT x, y, z:/.SEQ/..x, y := z, w/..v[x] := y/.x, y, z := 1, 2, 3", "SEQ/.x := 1/.INT n1, n2, n3:/.SEQ/..n1, n2 := n3, w/..v[n1] := n2/.x, y, z := 1, 2, 3"},
		{"SEQ/.[4]INT v:/.x := (SIZE v) + v[v[1]]/.x := SIZE v", "SEQ/.[4]INT n1:/.x := (SIZE n1) + n1[n1[1]]/.x := SIZE v"},
		{"SEQ/.CHAN OF q q:/.q ! q/.CHAN OF q c:/.SKIP", "SEQ/.CHAN OF q n1:/.n1 ! n1/.CHAN OF q n2:/.SKIP"},
		{"SEQ/.[2]CHAN OF q p, q, r:/.q ! q[1]/.q ! r", "SEQ/.[2]CHAN OF q n1, n2, n3:/.n2 ! n2[1]/.q ! r"},
		{"SEQ/.TIMER t:/.t ? AFTER t/.t ? AFTER t", "SEQ/.TIMER n1:/.n1 ? AFTER n1/.t ? AFTER t"},
		{"SEQ/.VAL INT x IS x[SIZE x]:/.y := x/.z := x", "SEQ/.VAL INT n1 IS x[SIZE x]:/.y := n1/.z := x"},
		{"SEQ/.INT x IS x:/.x := y/.x := z", "SEQ/.INT n1 IS x:/.n1 := y/.x := z"},
		{"SEQ/.BYTE x IS x[x + 1]:/.x := y/.x := z", "SEQ/.BYTE n1 IS x[x + 1]:/.n1 := y/.x := z"},
		{"SEQ/.PROTOCOL q IS INT; BYTE:/.CHAN OF q c:/.c ! q/.CHAN OF q c:/.c ! 1", "SEQ/.PROTOCOL n1 IS INT; BYTE:/.CHAN OF n1 n2:/.n2 ! n1/.CHAN OF q n3:/.n3 ! 1"},
		{"SEQ/.PROTOCOL q/..CASE/...q; INT/...other/.:/.CHAN OF q c:/.c ! q; q/.c ! q", "SEQ/.PROTOCOL n1/..CASE/...q; INT/...other/.:/.CHAN OF n1 n2:/.n2 ! q; n1/.c ! q"},
		{"SEQ/.PROC p()/..p()/.:/.p()/.p()", "SEQ/.PROC n1()/..p()/.:/.n1()/.p()"},
		{"SEQ/.PROC p(INT p, VAL BYTE a, [4]BOOL b)/..p := b[a] + x/.:/.SEQ/..p(a, b)/..p := a/.p(a, b)", "SEQ/.PROC n1(INT n2, VAL BYTE n3, [4]BOOL n4)/..n2 := n4[n3] + x/.:/.SEQ/..n1(a, b)/..n1 := a/.p(a, b)"},
		{"PROTOCOL q IS INT:/PROC p(CHAN OF q q, [2]CHAN OF q c, CHAN OF p d)/.q ! c[1]/:/CHAN OF q p:/p ! 1", "PROTOCOL n1 IS INT:/PROC n2(CHAN OF n1 n3, [2]CHAN OF n1 n4, CHAN OF p n5)/.n3 ! n4[1]/:/CHAN OF n1 n6:/n6 ! 1"},
		{"SEQ/.SEQ x = x FOR v[x]/..y := x/.y := x", "SEQ/.SEQ n1 = x FOR v[x]/..y := n1/.y := x"},
		{"SEQ/.PAR x = x FOR v[x]/..y := x/.y := x", "SEQ/.PAR n1 = x FOR v[x]/..y := n1/.y := x"},
		{"SEQ/.ALT x = x FOR v[x]/..x & c[x] ? v[x]; x/...x := x/.x := x", "SEQ/.ALT n1 = x FOR v[x]/..n1 & c[n1] ? v[n1]; n1/...n1 := n1/.x := x"},
		{"SEQ/.PRI ALT x = x FOR v[x]/..x & x ? AFTER x/...x := x/.x := x", "SEQ/.PRI ALT n1 = x FOR v[x]/..n1 & n1 ? AFTER n1/...n1 := n1/.x := x"},
		{"SEQ/.IF x = x FOR v[x]/..x = y/...x := x/.x := x", "SEQ/.IF n1 = x FOR v[x]/..n1 = y/...n1 := n1/.x := x"},
	} {
		checkNew(t, c[0], c[1])
	}
}

// P12.1: scopes inside others and beside them with the same names.
func TestNestedScopes(t *testing.T) {
	for _, c := range [][2]string{
		{"INT x:/INT x:/x := 1", "INT n1:/INT n2:/n2 := 1"},
		{"INT x:/SEQ/.x := 1/.INT x:/.SEQ/..x := 2/..INT x:/..x := 3/..x := 4/.x := 5", "INT n1:/SEQ/.n1 := 1/.INT n2:/.SEQ/..n2 := 2/..INT n3:/..n3 := 3/..n2 := 4/.n1 := 5"},
		{"INT x:/VAL INT x IS x:/INT x IS x:/x := x", "INT n1:/VAL INT n2 IS n1:/INT n3 IS n2:/n3 := n3"},
		{"PAR/.INT x:/.x := 1/.BYTE x:/.x := 2/.x := 3", "PAR/.INT n1:/.n1 := 1/.BYTE n2:/.n2 := 2/.x := 3"},
		{"IF/.x/..INT x:/..x := 1/.x/..x := 2", "IF/.x/..INT n1:/..n1 := 1/.x/..x := 2"},
		{"CASE x/.x/..INT x:/..x := 1/.x/..x := 2/.ELSE/..x := 3", "CASE x/.x/..INT n1:/..n1 := 1/.x/..x := 2/.ELSE/..x := 3"},
		{"SEQ x = x FOR x/.SEQ x = x FOR x/..x := x", "SEQ n1 = x FOR x/.SEQ n2 = n1 FOR n1/..n2 := n2"},
		{"INT x:/PROC p(INT x)/.x := 1/:/p(x)", "INT n1:/PROC n2(INT n3)/.n3 := 1/:/n2(n1)"},
		{"INT x:/PROC p(INT y)/.x := y/:/INT x:/p(x)", "INT n1:/PROC n2(INT n3)/.n1 := n3/:/INT n4:/n2(n4)"},
		{"PROC p()/.SKIP/:/PROC p()/.p()/:/p()", "PROC n1()/.SKIP/:/PROC n2()/.n1()/:/n2()"},
		{"PROC p()/.INT x:/.PROC p(INT x)/..x := x/.:/.p(x)/:/INT x:/p()", "PROC n1()/.INT n2:/.PROC n3(INT n4)/..n4 := n4/.:/.n3(n2)/:/INT n5:/n1()"},
		{"INT p:/PROC p(INT p)/.INT p:/.p := 1/:/p(p)", "INT n1:/PROC n2(INT n3)/.INT n4:/.n4 := 1/:/n2(n2)"},
		{"PROTOCOL q IS INT:/CHAN OF q c:/PROTOCOL q IS BYTE:/CHAN OF q d:/c ! d", "PROTOCOL n1 IS INT:/CHAN OF n1 n2:/PROTOCOL n3 IS BYTE:/CHAN OF n3 n4:/n2 ! n4"},
		{"c ? CASE/.x; x/..INT x:/..x := 1/.y; x/..x := 2", "c ? CASE/.x; x/..INT n1:/..n1 := 1/.y; x/..x := 2"},
		{"PLACED PAR/.PROCESSOR 5/..INT x:/..x := 1/.PROCESSOR 2/..x := 2", "PLACED PAR/.PROCESSOR 5/..INT n1:/..n1 := 1/.PROCESSOR 2/..x := 2"},
	} {
		checkNew(t, c[0], c[1])
	}
}

// P12.1: the numbers that are left out.
func TestNumbers(t *testing.T) {
	for _, c := range [][2]string{
		{"INT x:/x := n1", "INT n2:/n2 := n1"},
		{"INT x:/n1(x)", "INT n2:/n1(n2)"},
		{"CHAN OF n1 x:/SKIP", "CHAN OF n1 n2:/SKIP"},
		{"INT x, y, z:/x, y := z, n1 + n3", "INT n2, n4, n5:/n2, n4 := n5, n1 + n3"},
		{"INT x, y:/n1, n2, n3, n5 := x, y, x, y", "INT n4, n6:/n1, n2, n3, n5 := n4, n6, n4, n6"},
		{"SEQ/.INT n1:/.n1 := 1/.n1 := 2", "SEQ/.INT n2:/.n2 := 1/.n1 := 2"},
		{"SEQ/.n2 := 1/.INT n1, n2:/.n1 := n2", "SEQ/.n2 := 1/.INT n1, n3:/.n1 := n3"},

		{"PROTOCOL x/.CASE/..n1/..n3; INT/:/INT y, z:/SKIP", "PROTOCOL n2/.CASE/..n1/..n3; INT/:/INT n4, n5:/SKIP"},
		{"INT x:/PROTOCOL y/.CASE/..n2/:/CHAN OF y c:/c ! n2", "INT n1:/PROTOCOL n3/.CASE/..n2/:/CHAN OF n3 n4:/n4 ! n2"},
		{"INT x:/SEQ/.SKIP/.PROC p()/..PROTOCOL y/...CASE/....n1/..:/..SKIP/.:/.SKIP", "INT n2:/SEQ/.SKIP/.PROC n3()/..PROTOCOL n4/...CASE/....n1/..:/..SKIP/.:/.SKIP"},
		{"INT x:/c ? CASE/.n1; x/..SKIP/.n3/..INT y:/..SKIP", "INT n2:/c ? CASE/.n1; n2/..SKIP/.n3/..INT n4:/..SKIP"},
		{"INT n1:/c ? CASE/.n1; n1/..SKIP", "INT n2:/c ? CASE/.n1; n2/..SKIP"},

		{"INT n1:/n1 := 1", "INT n1:/n1 := 1"},
		{"INT n2, n1:/n1 := n2", "INT n1, n2:/n2 := n1"},
		{"INT n2:/INT n2:/INT n1:/n1 := n2", "INT n1:/INT n2:/INT n3:/n3 := n2"},
		{"INT n9, n1:/n9 := n1 + n3", "INT n1, n2:/n1 := n2 + n3"},
		{"INT x:/x, n01, N1, n0, n, n1.1 := n1a, n.1, n00, an1, n1n, n1.", "INT n1:/n1, n01, N1, n0, n, n1.1 := n1a, n.1, n00, an1, n1n, n1."},
		{"PROTOCOL q/.CASE/..n01/..N1/:/SKIP", "PROTOCOL n1/.CASE/..n01/..N1/:/SKIP"},
		{"PROTOCOL q IS INT:/SKIP", "PROTOCOL n1 IS INT:/SKIP"},
		{"INT a, b, c, d, e, f, g, h:/INT i, j, k, l:/h := n10", "INT n1, n2, n3, n4, n5, n6, n7, n8:/INT n9, n11, n12, n13:/n8 := n10"},
	} {
		checkNew(t, c[0], c[1])
	}
}

// P12.1: as many declarations as there can be, the same name in all of them, one inside the other.
func TestManyDeclarations(t *testing.T) {
	chain := func(name func(i int) string, last api.Process) api.Process {
		p := last
		for i := api.MaxTree - 1; i > 0; i-- {
			p = api.Process{Kind: api.PrSpec, Spec: api.Spec{Kind: api.SpDeclare, Type: api.Type{Kind: api.TyInt}, Names: []string{name(i)}}, L: []api.Process{p}}
		}
		return p
	}
	x := chain(func(int) string { return "x" }, proc("x := y"))
	n := chain(func(i int) string { return fmt.Sprint("n", i) }, proc("n2047 := y"))
	checkFree(t, x, "y")
	checkUnique(t, x, n)
	checkUnique(t, n, n)
	checkAlike(t, x, n, true)
	checkAlike(t, x, chain(func(int) string { return "x" }, proc("x := z")), false)
}

// P12.1: processes that are alike, and that are not.
func TestAlike(t *testing.T) {
	const left, right = "PROTOCOL q/.CASE/..a/..b/:/CHAN OF q c:/", "PROTOCOL p/.CASE/..a/..b/:/CHAN OF p d:/"
	for _, c := range [][2]string{
		{"INT x, y:/x := y", "INT y, x:/y := x"},
		{"SEQ i = 0 FOR n/.v[i] := i", "SEQ j = 0 FOR n/.v[j] := j"},
		{"PROC p(INT x)/.x := y/:/p(z)", "PROC q(INT p)/.p := y/:/q(z)"},
		{"VAL INT x IS y:/z := x", "VAL INT y IS y:/z := y"},
		{left + "c ! a", right + "d ! a"},
		{left + "c ? CASE/.a/..SKIP", right + "d ? CASE/.a/..SKIP"},
		{left + "INT a:/c ! a; a", right + "INT x:/d ! a; x"},
		{"x := y", "x := y"},
	} {
		checkAlike(t, proc(c[0]), proc(c[1]), true)
	}
	for _, c := range [][2]string{
		{"x := 1", "y := 1"},
		{"INT x:/x := z", "INT x:/x := y"},
		{"INT x:/x := y", "INT y:/y := y"},
		{"INT x:/x := 1", "INT x:/y := 1"},
		{"INT x, y:/x := y", "INT x, y:/y := x"},
		{"INT x:/BYTE y:/x := 1", "BYTE y:/INT x:/x := 1"},
		{"INT x:/INT y:/x := 1", "INT y:/INT x:/x := 1"},
		{"INT x:/x := 1", "BYTE x:/x := 1"},
		{"INT x:/x := 1", "INT x:/x := 2"},
		{"INT x:/x := 1", "INT x, y:/x := 1"},
		{"INT x:/x := n1", "INT x:/x := n2"},
		{"p(x)", "q(x)"},
		{left + "c ! a", left + "c ! b"},
		{left + "c ? CASE/.a/..SKIP", left + "c ? CASE/.b/..SKIP"},
		{"PROTOCOL q/.CASE/..a/:/SKIP", "PROTOCOL q/.CASE/..b/:/SKIP"},
		{"CHAN OF q c:/SKIP", "CHAN OF r c:/SKIP"},
	} {
		checkAlike(t, proc(c[0]), proc(c[1]), false)
	}
	twice, once := proc("INT x, x:/x := 1"), proc("INT x, y:/x := 1")
	for _, p := range []api.Process{once, twice, {}} {
		checkAlike(t, twice, p, false)
		checkAlike(t, api.Process{}, p, false)
	}
}
