package step_test

import (
	"slices"
	"strings"
	"testing"

	"transputer/api"
	"transputer/kernel"
	"transputer/step"
)

// checkMay checks whether a state is one of a kernel, and that it has no moves otherwise.
func checkMay(t *testing.T, k api.Kernel, s api.State, want bool) {
	t.Helper()
	if step.May(k, s) != want {
		t.Errorf("May(%s, %s) is not %t", brief(k), brief(s), want)
	}
	l := step.Moves(k, s)
	if !want && len(l) > 0 {
		t.Errorf("%s is no state of %s, and has the moves %s", brief(s), brief(k), brief(l))
	}
	if want && (len(l) == 0 || l[len(l)-1].Kind != api.MvTick) {
		t.Errorf("%s has no MvTick: %s", brief(s), brief(l))
	}
}

// checkRoot checks whether a state with this Root is one of some kernel.
func checkRoot(t *testing.T, root api.KProc, want bool) {
	t.Helper()
	s := at("skip")
	s.Root = root
	checkMay(t, some(), s, want)
}

func checkRoots(t *testing.T, want bool, roots ...string) {
	t.Helper()
	for _, root := range roots {
		checkRoot(t, kproc(root), want)
		if s := at(root); mayByRules(some(), s) != want {
			t.Errorf("by the rules %s is not %t", root, want)
		}
	}
}

// P18.1: the store of a state is one of the kernel; the words from the host and the clock are any words.
func TestMayStore(t *testing.T) {
	k := some()
	for _, store := range []string{someStore, "-5; 0; 0; 0 0 0; 0 0; 0 0", "2147483647; 255; 1; -1 -2 -3; 255 255; 1 1"} {
		checkMay(t, k, stateOf(store, "skip"), true)
	}
	for _, store := range []string{"", "5", "5; 256; 1; 10 20 30; 7 8; 0 1", "5; 200; 2; 10 20 30; 7 8; 0 1", "5; 200; 1; 10 20; 7 8; 0 1", "5; 200; 1; 10 20 30 40; 7 8; 0 1", "5; 200; 1; 10 20 30; 7 -8; 0 1", "5; 200; 1; 10 20 30; 7 8; 0 -1", "5; 200; 1; 10 20 30; 7 8", "5; 200; 1; 10 20 30; 7 8; 0 1; 0", "5 6; 200; 1; 10 20 30; 7 8; 0 1", "; 200; 1; 10 20 30; 7 8; 0 1"} {
		checkMay(t, k, stateOf(store, "skip"), false)
	}
	for _, in := range [][]int32{nil, {}, {0}, {-2147483648, 2147483647, -1}, make([]int32, 70000)} {
		for _, time := range []int32{0, 1, -1, 2147483647, -2147483648} {
			checkMay(t, k, api.State{Store: storeOf(someStore), Root: kproc("stop"), In: in, Time: time}, true)
		}
	}
	checkMay(t, kernelOf("", 2, "skip"), api.State{Root: kproc("skip")}, true)
	checkMay(t, kernelOf("", 2, "skip"), api.State{}, false)
	checkMay(t, kernelOf("", 2, "skip"), at("skip"), false)
}

// P18.1: the Root need not have anything to do with that of the kernel, nor with its Procs.
func TestMayAnyRoot(t *testing.T) {
	checkRoots(t, true, "skip", "stop", "clear v5", "v0, v3[v0], v1 := 1, 2, 255", "c0 ? INT v3[7]", "c4 ? BOOL v2", "c1 ! INT v0 * v0", "time v3[v0]", "after v0", "seq|.stop|.seq", "par|.skip|.stop", "pri par|.skip|.stop", "if", "alt", "pri alt", "wait",
		"while v2|.seq|..skip", "if|.v2|..par|.0|..seq", "alt|.v2 & c3 ? BYTE v1|..seq|.0 & after v0|..skip|.1 & skip|..par", "par|.stop|.par|..skip|..par|...stop")
	k := kernelOf("INT", 3, "par|.skip|.skip")
	k.Procs = []int{4, 2}
	checkMay(t, k, api.State{Store: storeOf("7"), Root: kproc("stop")}, true)
	checkMay(t, k, api.State{Store: storeOf("7"), Root: kproc("par|.skip|.stop|.stop|.skip|.stop|.stop|.skip|.stop|.stop|.skip|.stop|.stop|.skip|.stop|.stop|.skip")}, true)
	checkMay(t, k, api.State{Store: storeOf("7"), Root: kproc("c2 ! INT v0")}, true)
	checkMay(t, k, api.State{Store: storeOf("7"), Root: kproc("c3 ! INT v0")}, false)
	checkMay(t, k, api.State{Store: storeOf("7"), Root: kproc("clear v1")}, false)
}

// P18.1: processes that could not be the Root of a valid kernel, in all places.
func TestMayProcesses(t *testing.T) {
	places := []string{"HERE", "seq|.HERE|.skip", "seq|.stop|.HERE", "seq|.stop|.skip|.skip|.HERE|.skip", "par|.HERE|.stop", "par|.skip|.HERE", "pri par|.HERE|.stop", "pri par|.stop|.HERE", "while 1|.HERE", "if|.1|..HERE", "alt|.1 & skip|..skip|.1 & after 3|..HERE", "pri alt|.1 & c2 ? INT v0|..HERE", "wait|.0 & skip|..HERE", "seq|.wait|..1 & skip|...skip|.while 0|..HERE", "par|.stop|.seq|..stop|..if|...1|....skip|...0|....HERE"}
	bad := []api.KProc{{}, {Kind: 17}, {Kind: 255}, {Kind: api.KpSkip, C: 1}, {Kind: api.KpSkip, V: -1}, {Kind: api.KpStop, Item: api.TyInt}, {Kind: api.KpStop, L: make([]api.KProc, 1)}, {Kind: api.KpSkip, E: []api.KExpr{number(1)}}, {Kind: api.KpSkip, To: make([]api.KPlace, 1)}, {Kind: api.KpSkip, Guards: make([]api.KGuard, 1)}}
	for _, s := range []string{"clear v6", "clear v99", "v0 := v1", "v1 := 256", "v0, v1 := 1, 300", "v3 := 1", "v0[1] := 1", "c1 ? INT v0", "c0 ! INT 1", "c5 ? INT v0", "c2 ? INT v1", "c2 ! BOOL 2", "c0 ? BYTE v1", "c1 ! BOOL 1", "time v1", "time v3", "after 1 = 1", "while v0|.skip", "while 2|.skip", "while 1", "if|.2|..skip", "if|.1", "if|.1 & skip|..skip", "alt|.1|..skip", "alt|.v0 & skip|..skip", "pri alt|.1 & after v2|..skip", "alt|.1 & c1 ? INT v0|..skip", "alt|.1 & c2 ? BYTE v0|..skip", "alt|.1 & skip|..skip|..skip", "pri par|.stop", "pri par|.stop|.stop|.stop"} {
		bad = append(bad, kproc(s))
	}
	many := kproc("par|.stop")
	many.L = slices.Repeat(many.L, 17)
	guards := kproc("if|.1|..skip")
	guards.Guards = slices.Repeat(guards.Guards, 17)
	bad = append(bad, many, guards, withL(kproc("v0 := 1"), []api.KProc{kproc("skip")}), withL(kproc("alt"), []api.KProc{kproc("skip")}), withL(kproc("wait"), []api.KProc{kproc("skip")}))
	for _, place := range places {
		checkRoot(t, filled(kproc(marked(place)), kproc("stop")), true)
		for _, p := range bad {
			root := filled(kproc(marked(place)), p)
			checkRoot(t, root, false)
		}
	}
	many.L, guards.Guards = many.L[:16], guards.Guards[:16]
	checkRoot(t, many, true)
	checkRoot(t, guards, true)
}

// mark is a process that stands for another one.
const mark = "c4 ! BYTE 77"

// marked returns a text with the mark in the places of HERE.
func marked(s string) string { return strings.ReplaceAll(s, "HERE", mark) }

// filled returns a tree with q in the places of the mark.
func filled(p, q api.KProc) api.KProc {
	if equal(p, kproc(mark)) {
		return q
	}
	p.L, p.Guards = slices.Clone(p.L), slices.Clone(p.Guards)
	for i := range p.L {
		p.L[i] = filled(p.L[i], q)
	}
	for i := range p.Guards {
		body := slices.Clone(p.Guards[i].Body)
		for j := range body {
			body[j] = filled(body[j], q)
		}
		p.Guards[i].Body = body
	}
	return p
}

// P18.1: a KpWait may be a component, and nothing else.
func TestMayWait(t *testing.T) {
	checkRoots(t, true, "wait", "wait|.1 & skip|..skip", "seq|.wait|.skip", "seq|.seq|..wait|..skip|.skip", "par|.wait|.wait|..0 & skip|...stop", "pri par|.wait|.wait", "par|.skip|.seq|..wait|...1 & after -5|....if|..stop", "wait|.0 & c0 ? INT v3[v0 / 0]|..skip|.1 & c4 ? BYTE v1|..par|.1 & after 2147483647|..seq")
	checkRoots(t, false, "seq|.stop|.wait", "seq|.stop|.skip|.wait", "while 1|.wait", "while 1|.seq|..wait|..skip", "if|.1|..wait", "alt|.1 & skip|..wait", "wait|.1 & skip|..wait", "par|.stop|.seq|..stop|..wait", "seq|.stop|.par|..wait", "seq|.wait|.wait",
		"wait|.1|..skip", "wait|.2 & skip|..skip", "wait|.-1 & skip|..skip", "wait|.v2 & skip|..skip", "wait|.NOT 0 & skip|..skip", "wait|.0 & skip|..skip|.v5[0] & c2 ? INT v0|..skip", "wait|.1 & after v0|..skip", "wait|.1 & after 1 + 1|..skip", "wait|.0 & after - 5|..skip", "wait|.1 & c1 ? INT v0|..skip", "wait|.1 & c2 ? INT v1|..skip", "wait|.1 & skip", "wait|.1 & skip|..skip|..skip")
	wait := kproc("wait|.1 & skip|..skip")
	wait.Guards = slices.Repeat(wait.Guards, 16)
	checkRoot(t, wait, true)
	wait.Guards = slices.Repeat(wait.Guards[:1], 17)
	checkRoot(t, wait, false)
}

// P18.1: states with each of their fields changed, a KpWait with each of its fields among them.
func TestMayChanges(t *testing.T) {
	k := some()
	valid, not := 0, 0
	for _, root := range []string{
		"wait|.1 & skip|..skip|.0 & after 7|..stop|.1 & c2 ? BYTE v4[v0]|..seq|...stop",
		"par|.seq|..wait|...0 & c0 ? INT v0|....skip|..v0, v3[1] := v0 + 1, 2|.pri par|..after v0|..time v3[0]",
		"seq|.if|..v0 = 1|...c1 ! INT v0|.while NOT v2|..clear v3|.pri alt|..v2 & c3 ? BOOL v5[1]|...stop|.pri par|..c4 ! BYTE v1|..par|...skip",
	} {
		s := at(root)
		checkMay(t, k, s, true)
		eachChange(s, func(changed api.State) {
			want := mayByRules(k, changed)
			checkMay(t, k, changed, want)
			if want {
				valid++
			} else {
				not++
			}
		})
	}
	if valid < 200 || not < 3000 {
		t.Error(valid, not)
	}
}

// P18.1: no KpPriPar is inside the first process of another one, wherever they are.
func TestMayPriPar(t *testing.T) {
	checkRoots(t, true, "pri par|.stop|.pri par|..stop|..stop", "pri par|.stop|.pri par|..skip|..pri par|...stop|...skip", "par|.pri par|..stop|..skip|.pri par|..stop|..skip", "seq|.pri par|..stop|..skip|.pri par|..stop|..skip", "while 1|.pri par|..skip|..pri par|...skip|...skip", "pri par|.stop|.if|..1|...pri par|....skip|....skip")
	for _, inner := range []string{"pri par|..skip|..stop", "par|..skip|..pri par|...skip|...stop", "seq|..stop|..pri par|...skip|...skip", "while 1|..pri par|...skip|...skip", "if|..1|...skip|..0|...pri par|....skip|....skip", "alt|..1 & skip|...while 1|....pri par|.....skip|.....skip", "wait|..1 & skip|...pri par|....skip|....skip", "seq|..stop|..seq|...par|....skip|....seq|.....pri par|......skip|......skip"} {
		checkRoots(t, false, "pri par|."+inner+"|.skip", "pri par|."+inner+"|.stop")
		checkRoots(t, true, "pri par|.stop|."+inner, "par|."+inner+"|.stop")
		if strings.HasPrefix(inner, "wait") { // which is not valid in most places
			continue
		}
		for _, around := range []string{"seq|.stop|.HERE", "par|.stop|.HERE", "pri par|.stop|.HERE", "while 1|.HERE", "pri alt|.1 & skip|..HERE", "wait|.1 & skip|..HERE"} {
			for first, want := range map[bool]bool{true: false, false: true} {
				pair := kproc("pri par|." + inner + "|.stop")
				if !first {
					pair.L[0], pair.L[1] = pair.L[1], pair.L[0]
				}
				checkRoot(t, filled(kproc(marked(around)), pair), want)
			}
		}
	}
}

// row returns a KpSeq of n processes that begins with a KpStop.
func row(n int) api.KProc {
	l := slices.Repeat([]api.KProc{kproc("skip")}, n)
	l[0] = kproc("stop")
	return api.KProc{Kind: api.KpSeq, L: l}
}

// P18.1: states with 81,920 processes, and with one more.
func TestMaySize(t *testing.T) {
	for _, first := range []string{"stop", "wait|.1 & skip|..skip", "v0 := 3", "par|.skip|.stop|.skip"} {
		p := kproc(first)
		for _, extra := range []int{-1, 0, 1, 100} {
			root := api.KProc{Kind: api.KpSeq, L: append([]api.KProc{p, row(1900)}, slices.Repeat([]api.KProc{row(2047)}, 39)...)}
			for n := 81920 + extra - kernel.Size(root); n > 0; n-- {
				root.L = append(root.L, kproc("skip"))
			}
			checkRoot(t, root, extra <= 0)
		}
	}
	// Spread over guards and branches.
	guard := kproc("if|.1|..skip").Guards[0]
	guard.Body = []api.KProc{row(2000)}
	many := api.KProc{Kind: api.KpIf, Guards: slices.Repeat([]api.KGuard{guard}, 16)} // 32,017 processes
	two := api.KProc{Kind: api.KpPar, L: []api.KProc{many, {Kind: api.KpWhile, E: []api.KExpr{number(1)}, L: []api.KProc{many}}, row(2000), row(2000), row(2000), row(2000), row(2000), row(2000), row(2000), row(2000)}}
	left := 81920 - kernel.Size(two)
	for extra, want := range map[int]bool{-1: true, 0: true, 1: false} {
		full := two
		full.L = append(slices.Clone(two.L), row(left+extra-1))
		if n := kernel.Size(full); n != 81920+extra {
			t.Fatal(n)
		}
		checkRoot(t, full, want)
	}
}

// P18.1: processes that could be the Root of a valid kernel by their sizes, and that could not.
func TestMayLists(t *testing.T) {
	for n, want := range map[int]bool{2: true, 2046: true, 2047: true, 2048: false, 2049: false, 5000: false} {
		checkRoot(t, row(n), want)
		checkRoot(t, api.KProc{Kind: api.KpPar, L: []api.KProc{kproc("stop"), row(n), row(2)}}, want)
		checkRoot(t, api.KProc{Kind: api.KpWhile, E: []api.KExpr{number(1)}, L: []api.KProc{row(n)}}, want)
		checkRoot(t, api.KProc{Kind: api.KpSeq, L: []api.KProc{row(n), row(2047), row(n), kproc("skip"), row(2047)}}, want)
	}
	// Something that is not valid among many processes.
	for _, bad := range []string{"skip", "clear v6", "wait"} {
		for i := range 20 {
			root := api.KProc{Kind: api.KpSeq, L: slices.Repeat([]api.KProc{row(300)}, 20)}
			root.L[i] = row(300)
			root.L[i].L[i*15+1] = kproc(bad)
			checkRoot(t, root, bad == "skip")
		}
	}
}

// nested returns a process that is so deep, by n steps of one kind around the innermost one.
func nested(depth int, inner api.KProc, around func(p api.KProc) api.KProc) api.KProc {
	for range depth - procDepth(inner) {
		inner = around(inner)
	}
	return inner
}

// P18.1: states that are 96 deep, and 97.
func TestMayDepth(t *testing.T) {
	arounds := map[string]func(p api.KProc) api.KProc{}
	for _, text := range []string{"seq|.HERE|.skip", "seq|.stop|.HERE", "par|.skip|.HERE", "par|.stop|.HERE|.skip", "while 1|.HERE", "if|.0|..skip|.1|..HERE", "alt|.1 & skip|..HERE", "pri alt|.1 & skip|..HERE|.1 & skip|..skip"} {
		tree := kproc(marked(text))
		arounds[text] = func(p api.KProc) api.KProc { return filled(tree, p) }
	}
	for what, around := range arounds {
		for depth, want := range map[int]bool{33: true, 95: true, 96: true, 97: false, 98: false, 200: false} {
			root := nested(depth, kproc("stop"), around)
			if procDepth(root) != depth {
				t.Fatal(what, procDepth(root))
			}
			checkRoot(t, root, want)
		}
	}
	wait := func(p api.KProc) api.KProc { return replacedBody(kproc("wait|.1 & skip|..skip"), p) }
	for depth, want := range map[int]bool{96: true, 97: false} {
		checkRoot(t, wait(nested(depth-1, kproc("stop"), arounds["while 1|.HERE"])), want)
		checkRoot(t, api.KProc{Kind: api.KpPriPar, L: []api.KProc{kproc("stop"), nested(depth-1, kproc("stop"), arounds["seq|.HERE|.skip"])}}, want)
	}
}
