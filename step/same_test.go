package step_test

import (
	"slices"
	"testing"

	"transputer/api"
	"transputer/step"
)

func checkSame(t *testing.T, a, b api.State, want bool) {
	t.Helper()
	if step.Same(a, b) != want || step.Same(b, a) != want {
		t.Errorf("Same is not %t: %s; %s", want, brief(a), brief(b))
	}
}

// oddStates returns states that are of no kernel, with something in every field of everything in them.
func oddStates() []api.State {
	x := api.KExpr{Kind: 77, Oper: 5, To: 9, N: -7, V: 1 << 40, L: []api.KExpr{{Kind: api.KxVar, Oper: 99, N: 3, L: []api.KExpr{{}}}, {V: -1}}}
	place := api.KPlace{V: -3, Index: []api.KExpr{x, {}, x}}
	p := api.KProc{Kind: 99, C: -1, V: 7, Item: 200, To: []api.KPlace{place, {}}, E: []api.KExpr{x, {N: 1}}}
	g := api.KGuard{Kind: 9, Cond: x, C: 5, Item: 6, To: place, Time: x, Body: []api.KProc{p, {}, p}}
	p.Guards, p.L = []api.KGuard{g, {}, {Body: []api.KProc{{L: []api.KProc{{}}}}}}, []api.KProc{{Kind: 99, V: 5, L: []api.KProc{{}}}, p}
	return []api.State{
		{},
		{Store: make([][]int32, 3), In: []int32{0}, Time: -1},
		{Store: [][]int32{{5}, nil, {1, 2, 3}}, Root: p, In: []int32{1, 2}, Time: 9},
		{Root: api.KProc{Kind: api.KpWait, Guards: make([]api.KGuard, 2), L: make([]api.KProc, 2)}},
	}
}

// sampleStates returns states of a kernel.
func sampleStates() []api.State {
	return []api.State{
		at("skip"), at("stop"), timed(1, "skip"), stateOf("", "skip"),
		at("par|.seq|..v0, v3[v0 + 1] := - v0, INT v1|..clear v3|.pri par|..c0 ? INT v0|..c2 ! BYTE v4[v0]|.par|..time v3[0]|..after v0 PLUS 5|..skip|..stop"),
		timed(-7, "seq|.wait|..1 & c2 ? BYTE v4[1]|...seq|....skip|..0 & after 7|...stop|..1 & skip|...while v2|....skip|.if|..(v0 = 1) OR (NOT v2)|...stop|.pri alt|..v2 & c3 ? BOOL v5[0]|...alt"),
	}
}

// P18.1: states are the same as themselves, and as what differs by nil and empty lists alone, and as nothing else.
func TestSame(t *testing.T) {
	all := append(sampleStates(), oddStates()...)
	for i, a := range all {
		for j, b := range all {
			checkSame(t, a, b, i == j)
		}
		checkSame(t, withRoom(a, 0), a, true)
		checkSame(t, withRoom(a, 3), a, true)
		n := 0
		eachChange(a, func(changed api.State) {
			n++
			if step.Same(a, changed) || step.Same(changed, a) || !step.Same(changed, changed) {
				t.Errorf("%s and %s", brief(a), brief(changed))
			}
		})
		if n < 20 {
			t.Error(n)
		}
	}
}

// P18.1: where one list of a store ends and the next one begins makes a difference, and so does every part.
func TestSameParts(t *testing.T) {
	var all []api.State
	for _, store := range []string{"", "0", "0 0", "0; 0", "0 0; 0", "0; 0 0", "1", "0 1", "0; 1", ";", "; 0", "0;"} {
		for _, in := range [][]int32{nil, {0}, {0, 0}, {1}} {
			for _, time := range []int32{0, 1, least} {
				for _, root := range []string{"skip", "stop", "seq|.skip"} {
					all = append(all, api.State{Store: storeOf(store), Root: kproc(root), In: in, Time: time})
				}
			}
		}
	}
	for i, a := range all {
		for j, b := range all {
			checkSame(t, a, b, i == j)
		}
	}
	checkSame(t, api.State{Store: [][]int32{}, In: []int32{}, Root: api.KProc{L: []api.KProc{}, E: []api.KExpr{}, To: []api.KPlace{}, Guards: []api.KGuard{}}}, api.State{}, true)
}

// P18.1: Done, also of states that are of no kernel.
func TestDone(t *testing.T) {
	for _, store := range []string{"", "0", someStore} {
		checkDone(t, stateOf(store, "skip"), true)
		for _, root := range []string{"stop", "seq", "seq|.skip", "par", "par|.skip", "pri par|.skip|.skip", "clear v0", "wait", "if", "while 0|.skip", "c1 ! INT 1"} {
			checkDone(t, stateOf(store, root), false)
		}
	}
	checkDone(t, api.State{}, false)
	checkDone(t, api.State{Root: kproc("skip"), In: []int32{1}, Time: -1}, true)
	n := 0
	eachChange(api.State{Root: kproc("skip")}, func(changed api.State) {
		n++
		checkDone(t, changed, equal(changed.Root, kproc("skip")))
	})
	if n < 100 {
		t.Error(n)
	}
	empty := api.KProc{Kind: api.KpSkip, To: []api.KPlace{}, E: []api.KExpr{}, Guards: []api.KGuard{}, L: []api.KProc{}}
	checkDone(t, api.State{Root: empty}, true)
	for k := range 256 {
		checkDone(t, api.State{Root: api.KProc{Kind: api.KProcKind(k)}}, api.KProcKind(k) == api.KpSkip)
	}
	checkDone(t, api.State{Root: api.KProc{Kind: api.KpSkip, L: slices.Repeat([]api.KProc{kproc("skip")}, plenty)}}, false)
}
