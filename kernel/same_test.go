package kernel_test

import (
	"fmt"
	"slices"
	"testing"

	"transputer/api"
	"transputer/kernel"
)

func checkSame(t *testing.T, a, b api.Kernel, want bool) {
	t.Helper()
	if kernel.Same(a, b) != want || kernel.Same(b, a) != want {
		t.Errorf("Same is not %t: %.500s; %.500s", want, fmt.Sprint(a), fmt.Sprint(b))
	}
}

// odd returns kernels that are not valid, with something in every field of everything in them.
func odd() []api.Kernel {
	x := api.KExpr{Kind: 77, Oper: 5, To: 9, N: -7, V: 1 << 40, L: []api.KExpr{{Kind: api.KxVar, Oper: 99, N: 3, L: []api.KExpr{{}}}, {V: -1}}}
	place := api.KPlace{V: -3, Index: []api.KExpr{x, {}, x}}
	p := api.KProc{Kind: api.KpWait, C: -1, V: 7, Item: 200, To: []api.KPlace{place, {}}, E: []api.KExpr{x, {N: 1}}}
	g := api.KGuard{Kind: 9, Cond: x, C: 5, Item: 6, To: place, Time: x, Body: []api.KProc{p, {}, p}}
	p.Guards, p.L = []api.KGuard{g, {}, {Body: []api.KProc{{L: []api.KProc{{}}}}}}, []api.KProc{{Kind: 99, V: 5, L: []api.KProc{{}}}, p}
	return []api.Kernel{
		{},
		{Root: api.KProc{Kind: api.KpWait, Guards: make([]api.KGuard, 2)}},
		{Vars: []api.Var{{Kind: 8, Dim: -1}, {}}, Chans: []api.HostKind{9, 0, 1}, Root: p, Procs: []int{-1, 5, 5}},
	}
}

// P16.1: kernels are the same as themselves, and as what differs by nil and empty lists alone, and as nothing else.
func TestSame(t *testing.T) {
	all := append(samples(), odd()...)
	for i, a := range all {
		for j, b := range all {
			checkSame(t, a, b, i == j)
		}
		checkSame(t, copied(a, 0), a, true)
		checkSame(t, copied(a, 3), a, true)
		n := 0
		eachChange(a, func(changed api.Kernel) {
			n++
			if kernel.Same(a, changed) || kernel.Same(changed, a) || !kernel.Same(changed, changed) {
				t.Errorf("%.500s and %.500s", fmt.Sprint(a), fmt.Sprint(changed))
			}
		})
		if n < 20 {
			t.Error(n)
		}
	}
}

// P16.1: where one list ends and the next one begins makes a difference.
func TestSameLists(t *testing.T) {
	skip, seq := kproc("skip"), kproc("seq")
	tree := func(a, b []api.KProc) api.Kernel {
		return api.Kernel{Root: api.KProc{Kind: api.KpPar, L: []api.KProc{{Kind: api.KpSeq, L: a}, {Kind: api.KpSeq, L: b}}}}
	}
	guards := func(a, b []api.KProc) api.Kernel {
		return api.Kernel{Root: api.KProc{Kind: api.KpIf, Guards: []api.KGuard{{Body: a}, {Body: b}}}}
	}
	both := func(a, b []api.KProc) api.Kernel {
		return api.Kernel{Root: api.KProc{Kind: api.KpIf, Guards: []api.KGuard{{Body: a}}, L: b}}
	}
	lists := [][]api.KProc{nil, {skip}, {seq}, {skip, skip}, {skip, seq}, {seq, skip}, {skip, skip, skip}}
	var all []api.Kernel
	for _, make := range []func(a, b []api.KProc) api.Kernel{tree, guards, both} {
		for _, a := range lists {
			for _, b := range lists {
				all = append(all, make(a, b))
			}
		}
	}
	for i, a := range all {
		for j, b := range all {
			checkSame(t, a, b, i == j)
		}
	}
}

func checkSize(t *testing.T, p api.KProc, want int) {
	t.Helper()
	if n := kernel.Size(p); n != want {
		t.Errorf("Size(%.300s) = %d, not %d", fmt.Sprint(p), n, want)
	}
}

// P16.1: the number of processes, in all places, of processes that are valid and that are not.
func TestSize(t *testing.T) {
	for s, want := range map[string]int{
		"skip": 1, "clear v0": 1, "v0, v1 := 1, 2": 1, "seq": 1, "seq|.skip": 2, "par|.skip|.seq|..stop|..stop": 5, "pri par|.skip|.stop": 3, "while 1|.skip": 2, "if": 1, "if|.1|..skip|.0|..seq|...stop": 4,
		"alt|.1 & c0 ? INT v0|..if|...0|....skip": 3, "pri alt|.1 & after 1|..skip|.1 & skip|..stop": 3, "while 1|.while 1|..while 1|...seq|....skip|....skip": 6,
	} {
		checkSize(t, kproc(s), want)
	}
	checkSize(t, api.KProc{}, 1)
	checkSize(t, api.KProc{Kind: 99, Guards: make([]api.KGuard, 5)}, 1)
	checkSize(t, api.KProc{Kind: api.KpWait, Guards: []api.KGuard{{Body: make([]api.KProc, 3)}, {}, {Body: []api.KProc{{L: make([]api.KProc, 2)}}}}, L: make([]api.KProc, 4)}, 11)
	for _, k := range append(samples(), odd()...) {
		checkSize(t, k.Root, len(allIn(k.Root)))
		eachChange(k, func(changed api.Kernel) { checkSize(t, changed.Root, len(allIn(changed.Root))) })
	}
	checkSize(t, api.KProc{Kind: api.KpSkip, L: slices.Repeat([]api.KProc{kproc("if|.1|..skip")}, 1000)}, 2001)
}
