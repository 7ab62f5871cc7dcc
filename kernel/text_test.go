package kernel_test

import (
	"strconv"
	"strings"
	"testing"

	"transputer/api"
	"transputer/expr"
	"transputer/kernel"
)

// P16.3: whole texts, with every kind of line, as they are.
func TestText(t *testing.T) {
	k := api.Kernel{
		Vars:  []api.Var{{Kind: api.TyInt}, {Kind: api.TyByte, Dim: 1}, {Kind: api.TyBool, Dim: 64}, {Kind: api.TyInt, Dim: 3}, {Kind: api.TyBool}, {Kind: api.TyByte}},
		Chans: []api.HostKind{api.HostIn, api.HostOut, api.Inside, api.Inside},
		Procs: []int{7, 0, 3},
		Root: api.KProc{Kind: api.KpPar, L: []api.KProc{
			{Kind: api.KpSeq, L: []api.KProc{
				{Kind: api.KpSkip},
				{Kind: api.KpStop},
				{Kind: api.KpClear, V: 3},
				{Kind: api.KpAssign, To: []api.KPlace{{V: 0}, {V: 3, Index: []api.KExpr{{Kind: api.KxNumber, N: 2}}}}, E: []api.KExpr{{Kind: api.KxNumber, N: -5}, {Kind: api.KxVar}}},
				{Kind: api.KpIn, Item: api.TyInt, To: []api.KPlace{{V: 0}}},
				{Kind: api.KpIn, C: 2, Item: api.TyByte, To: []api.KPlace{{V: 1, Index: []api.KExpr{{Kind: api.KxVar}}}}},
				{Kind: api.KpOut, C: 3, Item: api.TyBool, E: []api.KExpr{{Kind: api.KxElem, V: 2, L: []api.KExpr{{Kind: api.KxVar}}}}},
				{Kind: api.KpTime, To: []api.KPlace{{V: 0}}},
				{Kind: api.KpAfter, E: []api.KExpr{{Kind: api.KxNumber, N: 9}}},
			}},
			{Kind: api.KpPriPar, L: []api.KProc{
				{Kind: api.KpWhile, E: []api.KExpr{{Kind: api.KxVar, V: 4}}, L: []api.KProc{{Kind: api.KpSkip}}},
				{Kind: api.KpIf, Guards: []api.KGuard{{Kind: api.GuIf, Cond: api.KExpr{Kind: api.KxVar, V: 4}, Body: []api.KProc{{Kind: api.KpStop}}}, {Kind: api.GuIf, Cond: api.KExpr{Kind: api.KxNumber, N: 1}, Body: []api.KProc{{Kind: api.KpSkip}}}}},
			}},
			{Kind: api.KpAlt, Guards: []api.KGuard{
				{Kind: api.GuSkip, Cond: api.KExpr{Kind: api.KxVar, V: 4}, Body: []api.KProc{{Kind: api.KpPriAlt, Guards: []api.KGuard{{Kind: api.GuAfter, Cond: api.KExpr{Kind: api.KxNumber, N: 1}, Time: api.KExpr{Kind: api.KxVar}, Body: []api.KProc{{Kind: api.KpSeq}}}}}}},
				{Kind: api.GuInput, Cond: api.KExpr{Kind: api.KxNumber}, C: 2, Item: api.TyByte, To: api.KPlace{V: 5}, Body: []api.KProc{{Kind: api.KpStop}}},
			}},
		}},
	}
	const want = "v0 INT\nv1 [1]BYTE\nv2 [64]BOOL\nv3 [3]INT\nv4 BOOL\nv5 BYTE\nc0 in\nc1 out\nc2\nc3\nprocs 7 0 3\n" +
		"par\n  seq\n    skip\n    stop\n    clear v3\n    v0, v3[2] := -5, v0\n    c0 ? INT v0\n    c2 ? BYTE v1[v0]\n    c3 ! BOOL v2[v0]\n    time v0\n    after 9\n" +
		"  pri par\n    while v4\n      skip\n    if\n      v4\n        stop\n      1\n        skip\n" +
		"  alt\n    v4 & skip\n      pri alt\n        1 & after v0\n          seq\n    0 & c2 ? BYTE v5\n      stop\n"
	if s, e := kernel.Text(k); s != want || e != api.OK {
		t.Errorf("%s %v", s, e)
	}
	if s, e := kernel.Text(kernelOf("", 2, "skip")); s != "c0 in\nc1 out\nskip\n" || e != api.OK {
		t.Errorf("%q %v", s, e)
	}
	k.Procs[2] = 0
	if s, e := kernel.Text(k); s != "" || e != api.ErrArg {
		t.Errorf("%q %v", s, e)
	}
}

// P16.3: each operator, alone and as an operand, and each kind of operand.
func TestOperandTexts(t *testing.T) {
	operands := map[string]api.KExpr{
		"7": {Kind: api.KxNumber, N: 7}, "-7": {Kind: api.KxNumber, N: -7}, "-2147483648": {Kind: api.KxNumber, N: -1 << 31}, "v12": {Kind: api.KxVar, V: 12}, "v3[v0]": {Kind: api.KxElem, V: 3, L: []api.KExpr{{Kind: api.KxVar}}},
		"v3[v0 + 1]": {Kind: api.KxElem, V: 3, L: []api.KExpr{binary(api.OperAdd, api.KExpr{Kind: api.KxVar}, api.KExpr{Kind: api.KxNumber, N: 1})}}, "v3[- 1]": {Kind: api.KxElem, V: 3, L: []api.KExpr{unary(api.OperNeg, api.KExpr{Kind: api.KxNumber, N: 1})}},
		"(- v0)": unary(api.OperNeg, api.KExpr{Kind: api.KxVar}), "(v0 - v0)": binary(api.OperSub, api.KExpr{Kind: api.KxVar}, api.KExpr{Kind: api.KxVar}), "(BYTE v0)": {Kind: api.KxConvert, To: api.TyByte, L: []api.KExpr{{Kind: api.KxVar}}}, "(NOT (NOT 1))": unary(api.OperNot, unary(api.OperNot, api.KExpr{Kind: api.KxNumber, N: 1})),
	}
	var vars []string
	for range 13 {
		vars = append(vars, "INT")
	}
	vars[3] = "[4]INT"
	k := kernelOf(strings.Join(vars, " "), 2, "skip")
	check := func(x api.KExpr, want string) {
		t.Helper()
		for kind, head := range map[api.TypeKind]string{api.TyInt: "v13 := ", api.TyByte: "v14 := ", api.TyBool: "v15 := "} {
			k := k
			k.Vars = append(append([]api.Var{}, k.Vars...), api.Var{Kind: api.TyInt}, api.Var{Kind: api.TyByte}, api.Var{Kind: api.TyBool})
			k.Root = api.KProc{Kind: api.KpAssign, To: []api.KPlace{{V: 12 + int(kind)}}, E: []api.KExpr{x}}
			if !(rules{k.Vars, 2}).fits(x, kind) {
				continue
			}
			if s := textOf(t, k); root(s) != head+want {
				t.Errorf("%s, not %s", root(s), head+want)
			}
		}
	}
	for s, x := range operands {
		check(x, strings.TrimSuffix(strings.TrimPrefix(s, "("), ")"))
		for kind, word := range map[api.TypeKind]string{api.TyInt: "INT", api.TyByte: "BYTE", api.TyBool: "BOOL"} {
			check(api.KExpr{Kind: api.KxConvert, To: kind, L: []api.KExpr{x}}, word+" "+s)
		}
		for o := api.OperNeg; o <= api.OperNot; o++ {
			word, _ := expr.Word(o)
			check(unary(o, x), word+" "+s)
			check(unary(o, unary(o, x)), word+" ("+word+" "+s+")")
		}
		for r, y := range operands {
			for o := api.OperAdd; o <= api.OperAfter; o++ {
				word, _ := expr.Word(o)
				check(binary(o, x, y), s+" "+word+" "+r)
			}
		}
	}
}

// P16.3: processes inside each other, and the numbers of variables and channels.
func TestNesting(t *testing.T) {
	for _, s := range []string{
		"while 1|.while 0|..if|...1|....if|.....0|......par|.......skip|.......seq|........seq|.........stop|.......skip|.....1|......stop",
		"pri alt|.1 & skip|..alt|...1 & c2 ? INT v0|....pri par|.....skip|.....pri par|......stop|......seq|...0 & after 7|....while 1|.....alt|.0 & c0 ? INT v0|..seq|...skip",
		"seq|.par|..skip|.skip|.par|.if|.alt|.pri alt|.seq|..seq|...seq|.seq",
	} {
		want := "v0 INT|c0 in|c1 out|c2|" + s
		if got := textOf(t, kernelOf("INT", 3, s)); got != want {
			t.Errorf("%s, not %s", got, want)
		}
	}
	vars, lines := make([]string, 256), make([]string, 0, 400)
	for i := range vars {
		vars[i] = "BOOL"
		lines = append(lines, "v"+strconv.Itoa(i)+" BOOL")
	}
	lines = append(lines, "c0 in", "c1 out")
	for i := 2; i < 64; i++ {
		lines = append(lines, "c"+strconv.Itoa(i))
	}
	lines = append(lines, "c63 ! BOOL v255")
	if s := textOf(t, kernelOf(strings.Join(vars, " "), 64, "c63 ! BOOL v255")); s != strings.Join(lines, "|") {
		t.Error(s)
	}
}
