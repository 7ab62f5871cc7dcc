package kernel_test

import (
	"slices"
	"testing"

	"transputer/api"
	"transputer/kernel"
)

const million = 1 << 20

// checkInvalid checks that a kernel is not valid, and has no text.
func checkInvalid(t *testing.T, what string, k api.Kernel) {
	t.Helper()
	if kernel.May(k) {
		t.Errorf("%s is valid", what)
	}
	if s, e := kernel.Text(k); s != "" || e != api.ErrArg {
		t.Errorf("Text of %s: %.100q, %v", what, s, e)
	}
}

func rooted(p api.KProc) api.Kernel {
	k := kernelOf(someVars, 4, "skip")
	k.Root = p
	return k
}

// largeKernels returns kernels with a million of something.
func largeKernels() map[string]api.Kernel {
	skip, x, place := kproc("skip"), kexpr("v0"), kplace("v0")
	skips, names := slices.Repeat([]api.KProc{skip}, million), slices.Repeat([]api.KExpr{x}, million)
	guard := kproc("if|.1|..skip").Guards[0]
	deepProc, deepExpr, deepGuard := skip, x, skip
	for range million {
		deepProc = api.KProc{Kind: api.KpSeq, L: []api.KProc{deepProc}}
		deepExpr = api.KExpr{Kind: api.KxMonadic, Oper: api.OperNeg, L: []api.KExpr{deepExpr}}
	}
	for range million / 4 {
		deepGuard = api.KProc{Kind: api.KpIf, Guards: []api.KGuard{{Kind: api.GuIf, Cond: kexpr("1"), Body: []api.KProc{deepGuard}}}}
	}
	rows := slices.Repeat([]api.KProc{{Kind: api.KpSeq, L: skips[:1024]}}, 1024)
	manyVars, manyChans, manyProcs := kernelOf("", 2, "par|.skip"), kernelOf("", 2, "skip"), kernelOf("", 2, "par|.skip")
	manyVars.Vars = slices.Repeat([]api.Var{{Kind: api.TyInt}}, million)
	manyChans.Chans = append(manyChans.Chans, make([]api.HostKind, million)...)
	manyProcs.Procs = make([]int, million)
	return map[string]api.Kernel{
		"processes side by side": rooted(api.KProc{Kind: api.KpSeq, L: skips}),
		"processes in rows":      rooted(api.KProc{Kind: api.KpSeq, L: rows}),
		"processes in a PAR":     rooted(api.KProc{Kind: api.KpPar, L: rows}),
		"processes in processes": rooted(deepProc),
		"guards":                 rooted(api.KProc{Kind: api.KpIf, Guards: slices.Repeat([]api.KGuard{guard}, million/4)}),
		"guards in guards":       rooted(deepGuard),
		"bodies":                 rooted(api.KProc{Kind: api.KpIf, Guards: []api.KGuard{{Kind: api.GuIf, Cond: kexpr("1"), Body: skips}}}),
		"deep expressions":       rooted(api.KProc{Kind: api.KpAfter, E: []api.KExpr{deepExpr}}),
		"a deep index":           rooted(api.KProc{Kind: api.KpTime, To: []api.KPlace{{V: 3, Index: []api.KExpr{deepExpr}}}}),
		"a deep condition":       rooted(api.KProc{Kind: api.KpIf, Guards: []api.KGuard{{Kind: api.GuIf, Cond: deepExpr, Body: []api.KProc{skip}}}}),
		"wide expressions":       rooted(api.KProc{Kind: api.KpAfter, E: []api.KExpr{{Kind: api.KxDyadic, Oper: api.OperAdd, L: names}}}),
		"values":                 rooted(api.KProc{Kind: api.KpAssign, To: slices.Repeat([]api.KPlace{place}, million), E: names}),
		"indexes":                rooted(api.KProc{Kind: api.KpTime, To: []api.KPlace{{V: 3, Index: names}}}),
		"variables":              manyVars, "channels": manyChans, "processors": manyProcs,
	}
}

// P16.1, P16.3, P0.1, R1: kernels with a million parts.
func TestLarge(t *testing.T) {
	all, other := largeKernels(), largeKernels()
	sizes := map[string]int{"processes side by side": million + 1, "processes in rows": million + 1025, "processes in processes": million + 1, "guards": million/4 + 1, "guards in guards": million/4 + 1, "bodies": million + 1, "values": 1}
	for what, k := range all {
		checkInvalid(t, what, k)
		if !kernel.Same(k, other[what]) || kernel.Same(k, api.Kernel{}) || kernel.Same(kernelOf("", 2, "skip"), k) {
			t.Errorf("%s: Same", what)
		}
		if n, ok := sizes[what]; ok {
			checkSize(t, k.Root, n)
		}
		// What comes last is looked at, too.
		p := k.Root
		switch {
		case len(p.L) > 1:
			p.L = slices.Clone(p.L)
			p.L[len(p.L)-1].V = 1
		case len(p.Guards) > 1:
			p.Guards = slices.Clone(p.Guards)
			p.Guards[len(p.Guards)-1].Item = 1
		default:
			continue
		}
		if changed := rooted(p); kernel.Same(k, changed) || kernel.Same(changed, k) {
			t.Errorf("%s: the same", what)
		}
	}
}

// P16.1, P16.3, R1: kernels that contain themselves.
func TestLoops(t *testing.T) {
	l := make([]api.KProc, 1)
	l[0] = api.KProc{Kind: api.KpSeq, L: l}
	checkInvalid(t, "a KpSeq in itself", rooted(l[0]))
	l = make([]api.KProc, 2)
	l[0], l[1] = api.KProc{Kind: api.KpPriPar, L: l}, api.KProc{Kind: api.KpPar, L: l}
	checkInvalid(t, "two processes in each other", rooted(l[1]))
	l = make([]api.KProc, 1)
	l[0] = api.KProc{Kind: api.KpAlt, Guards: []api.KGuard{{Kind: api.GuSkip, Cond: kexpr("1"), Body: l}}}
	checkInvalid(t, "a KpAlt in itself", rooted(l[0]))
	for _, x := range []api.KExpr{{Kind: api.KxMonadic, Oper: api.OperNeg}, {Kind: api.KxElem, V: 3}, {Kind: api.KxConvert, To: api.TyInt}} {
		e := make([]api.KExpr, 1)
		x.L = e
		e[0] = x
		checkInvalid(t, "an expression in itself", rooted(api.KProc{Kind: api.KpAfter, E: e}))
		checkInvalid(t, "an index in itself", rooted(api.KProc{Kind: api.KpTime, To: []api.KPlace{{V: 3, Index: e}}}))
		checkInvalid(t, "a condition in itself", rooted(api.KProc{Kind: api.KpIf, Guards: []api.KGuard{{Kind: api.GuIf, Cond: x, Body: []api.KProc{kproc("skip")}}}}))
	}
	e := make([]api.KExpr, 2)
	e[0] = api.KExpr{Kind: api.KxDyadic, Oper: api.OperAdd, L: e}
	e[1] = e[0]
	checkInvalid(t, "a sum of itself", rooted(api.KProc{Kind: api.KpAfter, E: e[:1]}))
}

// P16.2, P0.1, R1: processes that are too large or too deep, or that contain themselves.
func TestLargePrograms(t *testing.T) {
	skip := api.Process{Kind: api.PrSkip}
	x := api.Expr{Kind: api.ExName, S: "x"}
	deepProc, deepExpr, deepSpec := skip, x, skip
	for range million / 8 {
		deepProc = seq(deepProc)
	}
	for range million {
		deepExpr = api.Expr{Kind: api.ExIndex, S: "x", L: []api.Expr{deepExpr}}
	}
	for range million / 16 {
		deepSpec = api.Process{Kind: api.PrSpec, Spec: api.Spec{Kind: api.SpDeclare, Type: api.Type{Kind: api.TyInt}, Names: []string{"x"}}, L: []api.Process{deepSpec}}
	}
	row := seq(slices.Repeat([]api.Process{skip}, 1024)...)
	rows := slices.Repeat([]api.Process{row}, 1024)
	for what, p := range map[string]api.Process{
		"rows of processes": seq(rows...), "a PAR": {Kind: api.PrPar, L: rows}, "processes in processes": deepProc, "specifications": deepSpec, "an index": {Kind: api.PrAssign, Targets: []api.Expr{deepExpr}, Exprs: []api.Expr{x}},
		"guards":  {Kind: api.PrIf, Guards: slices.Repeat([]api.Guard{{Kind: api.GuIf, Cond: x, Body: []api.Process{skip}}}, million/16)},
		"actuals": {Kind: api.PrCall, Name: "p", Exprs: slices.Repeat([]api.Expr{x}, million)},
	} {
		if k, e := kernel.Make(p); e != api.ErrArg || !kernel.Same(k, api.Kernel{}) {
			t.Errorf("%s: %v", what, e)
		}
	}
	l := make([]api.Process, 1)
	l[0] = seq(l...)
	l[0].L = l
	if _, e := kernel.Make(l[0]); e != api.ErrArg {
		t.Error("a process in itself:", e)
	}
	l = make([]api.Process, 1)
	l[0] = api.Process{Kind: api.PrSpec, Spec: api.Spec{Kind: api.SpProc, Names: []string{"p"}, Body: l}, L: []api.Process{{Kind: api.PrCall, Name: "p"}}}
	if _, e := kernel.Make(l[0]); e != api.ErrArg {
		t.Error("a procedure in itself:", e)
	}
}

// P16.2, R1: programs that are as large as they can be.
func TestLargestPrograms(t *testing.T) {
	p := proc("to.host ! x7")
	names := []string{"x0", "x1", "x2", "x3", "x4", "x5", "x6", "x7"}
	for range api.MaxTree - 1 {
		p = api.Process{Kind: api.PrSpec, Spec: api.Spec{Kind: api.SpDeclare, Type: api.Type{Kind: api.TyInt}, Names: names}, L: []api.Process{p}}
	}
	checkError(t, "16376 variables", p, api.ErrLong)
	p = proc("SEQ|.to.host ! x")
	for range api.MaxTree - 2 {
		p = api.Process{Kind: api.PrSpec, Spec: proc("VAL INT x IS x + 1:|SKIP").Spec, L: []api.Process{p}}
	}
	p.Spec.E = proc("to.host ! 1").Exprs[0]
	if k, e := kernel.Make(p); e != api.OK || textOf(t, k) != "c0 in|c1 out|c1 ! INT 2046" {
		t.Errorf("%v, %.200s", e, textOf(t, k))
	}
	checkError(t, "a value of itself", p.L[0], api.ErrScope)

	// As many names in as many expressions as there can be.
	sum := named(balanced(255), "x")
	call := api.Process{Kind: api.PrCall, Name: "p", Exprs: slices.Repeat([]api.Expr{sum}, 8)}
	p = proc("PROC p(VAL INT a, VAL INT b, VAL INT c, VAL INT d, VAL INT e, VAL INT f, VAL INT g, VAL INT h)|.SKIP|:|SEQ")
	p.L[0].L = slices.Repeat([]api.Process{call}, 1022)
	around := proc("VAL INT x IS 0:|SKIP")
	around.L = []api.Process{p}
	if k, e := kernel.Make(around); e != api.OK || len(k.Vars) != 0 || len(k.Root.L) != 1022 {
		t.Errorf("%v, %d", e, len(k.Root.L))
	}
}
