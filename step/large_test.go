package step_test

import (
	"slices"
	"testing"

	"transputer/api"
	"transputer/step"
)

// plenty is far more than any limit.
const plenty = 1 << 18

// deepProc returns a process that is n processes deep inside others.
func deepProc(n int, p api.KProc, around func(l []api.KProc) api.KProc) api.KProc {
	for range n {
		p = around([]api.KProc{p})
	}
	return p
}

// guarded returns a choice with one guard, which has this body.
func guarded(k api.KProcKind, g api.GuardKind) func(body []api.KProc) api.KProc {
	return func(body []api.KProc) api.KProc {
		return api.KProc{Kind: k, Guards: []api.KGuard{{Kind: g, Cond: number(1), Body: body}}}
	}
}

func ofKind(k api.KProcKind) func(l []api.KProc) api.KProc {
	return func(l []api.KProc) api.KProc { return api.KProc{Kind: k, L: l} }
}

// behind returns a KpSeq in which a list comes behind a KpStop.
func behind(l []api.KProc) api.KProc {
	return api.KProc{Kind: api.KpSeq, L: append([]api.KProc{kproc("stop")}, l...)}
}

func loopOf(l []api.KProc) api.KProc {
	return api.KProc{Kind: api.KpWhile, E: []api.KExpr{number(1)}, L: l}
}

// largeRoots returns processes with plenty of something.
func largeRoots() map[string]api.KProc {
	stop, x := kproc("stop"), kexpr("v0")
	stops := slices.Repeat([]api.KProc{stop}, plenty)
	deep := x
	for range plenty {
		deep = api.KExpr{Kind: api.KxMonadic, Oper: api.OperModNeg, L: []api.KExpr{deep}}
	}
	rows := slices.Repeat([]api.KProc{{Kind: api.KpSeq, L: stops[:1024]}}, 1024)
	ways := []api.KProc{stop}
	for range 60 {
		ways = []api.KProc{{Kind: api.KpPar, L: slices.Repeat(ways, 2)}}
	}
	return map[string]api.KProc{
		"side by side":     {Kind: api.KpSeq, L: stops},
		"in parallel":      {Kind: api.KpPar, L: stops},
		"in rows":          {Kind: api.KpSeq, L: rows},
		"inside a skip":    {Kind: api.KpSkip, L: stops},
		"deep, first":      deepProc(plenty, stop, ofKind(api.KpSeq)),
		"deep, behind":     deepProc(plenty/8, stop, behind),
		"deep in branches": deepProc(plenty, stop, ofKind(api.KpPar)),
		"deep in loops":    deepProc(plenty/8, stop, loopOf),
		"deep in guards":   deepProc(plenty/8, stop, guarded(api.KpIf, api.GuIf)),
		"deep in waits":    deepProc(plenty/8, stop, guarded(api.KpWait, api.GuSkip)),
		"guards":           {Kind: api.KpWait, Guards: slices.Repeat(kproc("wait|.1 & skip|..skip").Guards, plenty/4)},
		"bodies":           guarded(api.KpWait, api.GuSkip)(stops),
		"values":           {Kind: api.KpAssign, To: slices.Repeat([]api.KPlace{{}}, plenty), E: slices.Repeat([]api.KExpr{x}, plenty)},
		"a deep value":     {Kind: api.KpAfter, E: []api.KExpr{deep}},
		"a deep index":     {Kind: api.KpTime, To: []api.KPlace{{V: 3, Index: []api.KExpr{deep}}}},
		"a deep condition": {Kind: api.KpWait, Guards: []api.KGuard{{Kind: api.GuSkip, Cond: deep, Body: []api.KProc{stop}}}},
		"2^60 branches":    ways[0],
	}
}

// P18.1, P0.1, R1: states and kernels with plenty of parts, very deep ones, and 2^60 branches.
func TestLarge(t *testing.T) {
	for what, root := range largeRoots() {
		s := at("skip")
		s.Root = root
		k := some()
		k.Root = root
		if step.May(some(), s) || len(step.Moves(some(), s)) > 0 || step.Done(s) {
			t.Errorf("%s: a state", what)
		}
		if first, e := step.Start(k, []int32{1}); e != api.ErrArg || !equal(first, api.State{}) {
			t.Errorf("%s: %s, %v", what, brief(first), e)
		}
		if step.May(k, at("skip")) || len(step.Moves(k, at("skip"))) > 0 {
			t.Errorf("%s: a kernel", what)
		}
	}
}

// P18.1, R1: large states that are of no kernel are compared to their ends.
func TestSameLarge(t *testing.T) {
	all, others := largeRoots(), largeRoots()
	for what, root := range all {
		if what == "2^60 branches" {
			continue
		}
		a, b := at("skip"), at("skip")
		a.Root, b.Root = root, others[what]
		if !step.Same(a, b) || step.Same(a, at("skip")) || step.Same(at("skip"), a) {
			t.Errorf("%s: Same", what)
		}
		if n := len(root.L); n > 1 {
			b.Root.L = slices.Clone(root.L)
			b.Root.L[n-1].V = 1
			checkSame(t, a, b, false)
		}
	}
	a, b := at("skip"), at("skip")
	a.In, b.In = make([]int32, plenty), make([]int32, plenty)
	a.Store, b.Store = append(a.Store, make([]int32, plenty)), append(b.Store, make([]int32, plenty))
	checkSame(t, a, b, true)
	b.In[plenty-1] = 1
	checkSame(t, a, b, false)
	b.In[plenty-1] = 0
	b.Store[6][plenty-1] = 1
	checkSame(t, a, b, false)
}

// P18.1, P0.1, R1: states and kernels that contain themselves.
func TestLoops(t *testing.T) {
	roots := map[string]api.KProc{}
	add := func(what string, around func(l []api.KProc) api.KProc, others ...api.KProc) {
		l := append(make([]api.KProc, 1), others...)
		l[0] = around(l)
		roots[what] = l[0]
	}
	stop := kproc("stop")
	add("a KpSeq in itself", ofKind(api.KpSeq))
	add("a KpSeq in itself, with more", ofKind(api.KpSeq), stop)
	add("a KpSeq behind itself", func(l []api.KProc) api.KProc {
		return api.KProc{Kind: api.KpSeq, L: []api.KProc{stop, {Kind: api.KpSeq, L: l}}}
	})
	add("a KpPar in itself", ofKind(api.KpPar))
	add("a KpPar in itself, with more", ofKind(api.KpPar), stop, stop)
	add("a KpPriPar in itself", ofKind(api.KpPriPar), stop)
	add("a KpWhile in itself", loopOf)
	add("a KpIf in itself", guarded(api.KpIf, api.GuIf))
	add("a KpWait in itself", guarded(api.KpWait, api.GuSkip))
	add("a KpAlt in itself", guarded(api.KpAlt, api.GuSkip))
	both := make([]api.KProc, 16)
	for i := range both {
		both[i] = api.KProc{Kind: api.KpPar, L: both}
	}
	roots["sixteen branches, each all of them"] = both[0]
	for _, x := range []api.KExpr{{Kind: api.KxMonadic, Oper: api.OperModNeg}, {Kind: api.KxElem, V: 3}, {Kind: api.KxConvert, To: api.TyInt}} {
		e := make([]api.KExpr, 1)
		x.L = e
		e[0] = x
		roots["a value in itself"] = api.KProc{Kind: api.KpAfter, E: e}
		roots["an index in itself"] = api.KProc{Kind: api.KpTime, To: []api.KPlace{{V: 3, Index: e}}}
		roots["a time in itself"] = api.KProc{Kind: api.KpWait, Guards: []api.KGuard{{Kind: api.GuAfter, Cond: number(1), Time: x, Body: []api.KProc{stop}}}}
		roots["a condition in itself"] = api.KProc{Kind: api.KpWait, Guards: []api.KGuard{{Kind: api.GuSkip, Cond: x, Body: []api.KProc{stop}}}}
	}
	for what, root := range roots {
		s, k := at("skip"), some()
		s.Root, k.Root = root, root
		if step.May(some(), s) || len(step.Moves(some(), s)) > 0 || step.Done(s) || step.Same(s, at("skip")) || step.Same(at("skip"), s) {
			t.Errorf("%s: a state", what)
		}
		if first, e := step.Start(k, nil); e != api.ErrArg || !equal(first, api.State{}) {
			t.Errorf("%s: %s, %v", what, brief(first), e)
		}
		if step.May(k, at("skip")) || len(step.Moves(k, at("skip"))) > 0 {
			t.Errorf("%s: a kernel", what)
		}
	}
}

// P18.1, R1: states of kernels that are as large as they can be, with many components, or with many words from the host.
func TestLargeStates(t *testing.T) {
	tree := kproc("stop")
	for range 4 {
		tree = api.KProc{Kind: api.KpPar, L: slices.Repeat([]api.KProc{tree}, 16)} // in the end 69,905 processes
	}
	busy := func(p api.KProc) api.KProc {
		p.L = slices.Clone(p.L)
		p.L[9] = replaced(p.L[9], path{3, 15, 0}, kproc("c2 ! INT 6"))
		p.L[15] = replaced(p.L[15], path{15, 15, 15}, kproc("c2 ? INT v0"))
		p.L[0] = replaced(p.L[0], path{0, 0, 1}, kproc("clear v0"))
		return p
	}
	s := at("skip")
	s.Root = busy(tree)
	l := step.Moves(some(), s)
	if len(l) != 3 || l[0].Kind != api.MvTau || l[1].Event != (api.Event{C: 2, V: 6}) || l[2].Kind != api.MvTick {
		t.Fatal(len(l))
	}
	after := s.Root
	for _, at := range []path{{9, 3, 15, 0}, {15, 15, 15, 15}} {
		after = replaced(after, at, kproc("skip"))
	}
	if want := (api.State{Store: storeOf("6; 200; 1; 10 20 30; 7 8; 0 1"), Root: after, In: s.In}); !step.Same(l[1].Next, want) {
		t.Error("the communication of two of many components")
	}
	// Memory that is shared in an argument stands for as many processes as there are ways to it.
	pair := kproc("seq|.c1 ! INT 1|.stop")
	checkMoves(t, api.State{Store: storeOf(someStore), Root: api.KProc{Kind: api.KpPar, L: []api.KProc{pair, pair}}}, "1 1 @ par|.stop|.seq|..c1 ! INT 1|..stop", "1 1 @ par|.seq|..c1 ! INT 1|..stop|.stop")

	in := make([]int32, plenty)
	in[0], in[plenty-1] = 5, 7
	k := kernelOf("INT", 2, "seq|.c0 ? INT v0|.c1 ! INT v0")
	first := start(t, k, in...)
	m := step.Moves(k, first)
	if len(m) != 2 || m[0].Event != (api.Event{V: 5}) || !slices.Equal(m[0].Next.In, in[1:]) || !slices.Equal(m[1].Next.In, in) {
		t.Error(len(m))
	}
	many := first
	many.Store = slices.Repeat([][]int32{{0}}, plenty)
	if step.May(k, many) || len(step.Moves(k, many)) > 0 {
		t.Error("a store of plenty of variables")
	}
}

// P18.1, R1: very many moves.
func TestManyMoves(t *testing.T) {
	root := api.KProc{Kind: api.KpPar}
	for range 12 {
		row := api.KProc{Kind: api.KpPar}
		for range 8 {
			row.L = append(row.L, kproc("c2 ! INT 1"), kproc("c2 ? INT v0"))
		}
		root.L = append(root.L, row)
	}
	s := at("skip")
	s.Root = root
	l := step.Moves(some(), s)
	if len(l) != 96*96+1 {
		t.Fatal(len(l))
	}
	for n, m := range l[:96*96] {
		at := func(p api.KProc, i int) api.KProc { return p.L[i/8].L[i%8*2] }
		from, to := n/96, n%96
		input := m.Next.Root.L[to/8].L[to%8*2+1]
		if at(m.Next.Root, from).Kind != api.KpSkip || input.Kind != api.KpSkip || m.Next.Store[0][0] != 1 {
			t.Fatal(n, brief(m))
		}
	}
}
