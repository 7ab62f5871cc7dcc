package kernel_test

import (
	"slices"
	"strings"
	"testing"

	"transputer/api"
	"transputer/kernel"
)

// checkMay checks whether kernels with the variables of someVars and four channels are valid.
func checkMay(t *testing.T, want bool, roots ...string) {
	t.Helper()
	for _, s := range roots {
		if k := kernelOf(someVars, 4, s); kernel.May(k) != want {
			t.Errorf("May(%s) = %t", s, !want)
		}
	}
}

// P16.1: the processes of all kinds.
func TestProcesses(t *testing.T) {
	checkMay(t, true, "skip", "stop", "clear v0", "clear v3", "clear v5", "v0 := 1", "v1 := 255", "v2 := 1", "v3[0] := v0", "v4[v0] := v1", "v5[9] := v0 = 1",
		"v0, v0 := 1, 2", "v0, v1, v2 := 256, 255, 1", "v0, v0, v0, v0, v0, v0, v0, v0 := 1, 2, 3, 4, 5, 6, 7, 8",
		"c0 ? INT v0", "c0 ? INT v3[0]", "c2 ? INT v0", "c3 ? BYTE v1", "c3 ? BYTE v4[v0]", "c2 ? BOOL v2", "c2 ? BOOL v5[0]", "c1 ! INT v0", "c1 ! INT 256", "c2 ! INT 1", "c3 ! BYTE 1", "c3 ! BOOL 1", "c2 ! BYTE 255", "c2 ! BOOL v0 = 1",
		"time v0", "time v3[v0]", "after v0", "after 1 + v0", "seq", "seq|.skip", "seq|.seq|..seq|.stop", "par", "par|.skip", "pri par|.skip|.stop", "pri par|.seq|.par", "while 1|.skip", "while v0 = 1|.while v2|..stop", "while v5[0]|.seq",
		"par"+strings.Repeat("|.skip", 16), "seq"+strings.Repeat("|.skip", 17))
	checkMay(t, false, "clear v6", "clear v255", "clear v256", "clear v-1", "v0 := v1", "v0 := v2", "v1 := 256", "v1 := -1", "v1 := v0", "v2 := 2", "v2 := v0", "v3 := 1", "v3 := v3", "v0[0] := 1", "v3[v1] := 1", "v3[v3] := 1", "v6 := 1", "v-1 := 1", "v4[0] := v0", "v0 := v6",
		"v0, v1 := 1", "v0 := 1, 2", "v0, v1, v2 := 1, 2, 3", "v0, v1, v2 := 1, 256, 1", "v0, v0, v0, v0, v0, v0, v0, v0, v0 := 1, 2, 3, 4, 5, 6, 7, 8, 9",
		"c0 ? BYTE v1", "c0 ? BOOL v2", "c1 ? INT v0", "c1 ? BYTE v1", "c4 ? INT v0", "c-1 ? INT v0", "c2 ? INT v1", "c2 ? BYTE v0", "c2 ? BOOL v0", "c2 ? INT v3", "c2 ? INT v6", "c2 ? INT v0[0]", "c2 ? BYTE v3[0]",
		"c0 ! INT v0", "c0 ! BYTE 1", "c1 ! BYTE 1", "c1 ! BOOL 1", "c1 ! INT v1", "c4 ! INT 1", "c-1 ! INT 1", "c2 ! BYTE 256", "c2 ! BYTE v0", "c2 ! BOOL 2", "c2 ! BOOL v1", "c2 ! INT v2", "c2 ! INT v6",
		"time v1", "time v2", "time v3", "time v4[0]", "time v0[0]", "time v6", "after v1", "after v2", "after v3", "after 1 = 1", "pri par", "pri par|.skip", "pri par|.skip|.skip|.skip", "while 1", "while 1|.skip|.skip", "while v0|.skip", "while 2|.skip", "while v1|.skip",
		"skip|.skip", "stop|.skip", "clear v0|.skip", "v0 := 1|.skip", "c0 ? INT v0|.skip", "c1 ! INT 1|.skip", "time v0|.skip", "after 1|.skip", "seq|.clear v6", "par|.skip|.v0 := v1", "while 1|.time v1", "pri par|.skip|.after v1",
		"par"+strings.Repeat("|.skip", 17))
}

// P16.1: the guards of all kinds.
func TestGuards(t *testing.T) {
	checkMay(t, true, "if", "if|.1|..skip", "if|.v0 = 1|..v0 := 2|.0|..seq", "alt", "pri alt", "alt|.1 & skip|..stop", "pri alt|.v2 & skip|..seq", "alt|.1 & c0 ? INT v0|..skip", "alt|.v5[0] & c2 ? BYTE v4[1]|..skip|.1 & c3 ? BOOL v2|..skip", "pri alt|.1 & after v0|..skip|.0 & skip|..alt",
		"if"+strings.Repeat("|.1|..skip", 16), "alt"+strings.Repeat("|.1 & skip|..skip", 16), "pri alt"+strings.Repeat("|.1 & c2 ? INT v0|..skip", 16))
	checkMay(t, false, "if|.v0|..skip", "if|.v1|..skip", "if|.2|..skip", "if|.-1|..skip", "if|.v3|..skip", "if|.1", "if|.1|..skip|..skip", "if|.1|..skip|.v0|..skip", "if|.1|..clear v6",
		"alt|.v0 & skip|..skip", "alt|.1 & skip", "alt|.1 & skip|..skip|..skip", "alt|.1 & c1 ? INT v0|..skip", "alt|.1 & c0 ? BYTE v1|..skip", "alt|.1 & c4 ? INT v0|..skip", "alt|.1 & c-1 ? INT v0|..skip", "alt|.1 & c2 ? INT v1|..skip", "alt|.1 & c2 ? INT v3|..skip", "alt|.2 & c2 ? INT v0|..skip", "alt|.1 & c2 ? INT v6|..skip", "alt|.1 & c2 ? INT v0", "pri alt|.1 & after v1|..skip", "pri alt|.1 & after v2|..skip", "alt|.v1 & after 1|..skip", "alt|.1 & after 1", "pri alt|.1 & skip|..v0 := v1",
		"if"+strings.Repeat("|.1|..skip", 17), "alt"+strings.Repeat("|.1 & skip|..skip", 17), "pri alt"+strings.Repeat("|.1 & c2 ? INT v0|..skip", 17))
}

// P16.1: which kinds of guards there are in which kinds of choices.
func TestGuardKinds(t *testing.T) {
	for _, choice := range []api.KProcKind{api.KpIf, api.KpAlt, api.KpPriAlt} {
		for n := range 256 {
			kind := api.GuardKind(n)
			k := kernelOf(someVars, 4, "if|.1|..skip")
			k.Root.Kind, k.Root.Guards[0].Kind = choice, kind
			g := &k.Root.Guards[0]
			if want := choice == api.KpIf && kind == api.GuIf || choice != api.KpIf && kind == api.GuSkip; kernel.May(k) != want {
				t.Errorf("a guard %d of %d: not %t", kind, choice, want)
			}
			g.Time = kexpr("1")
			if want := choice != api.KpIf && kind == api.GuAfter; kernel.May(k) != want {
				t.Errorf("a guard %d of %d with a time: not %t", kind, choice, want)
			}
			g.Time, g.C, g.Item = api.KExpr{}, 2, api.TyInt
			if want := choice != api.KpIf && kind == api.GuInput; kernel.May(k) != want {
				t.Errorf("a guard %d of %d with a channel: not %t", kind, choice, want)
			}
		}
	}
}

// P16.1: KpWait, and kinds that there are not.
func TestNoSuchKind(t *testing.T) {
	guards := kproc("alt|.1 & skip|..skip").Guards
	for n := range 256 {
		if kind := api.KProcKind(n); kind == api.NoKProc || kind >= api.KpWait {
			for _, p := range []api.KProc{{Kind: kind}, {Kind: kind, Guards: guards}, {Kind: kind, L: kproc("seq|.skip").L}} {
				checkRoot(t, p, false)
				checkRoot(t, api.KProc{Kind: api.KpSeq, L: []api.KProc{p}}, false)
			}
		}
	}
	for _, p := range []api.KProc{{Kind: api.KpAlt, Guards: slices.Repeat(guards, 2)}, {Kind: api.KpSeq}} {
		checkRoot(t, p, true)
	}
}

func checkRoot(t *testing.T, p api.KProc, want bool) {
	t.Helper()
	k := kernelOf(someVars, 4, "skip")
	k.Root = p
	if kernel.May(k) != want {
		t.Errorf("May(%v) = %t", p, !want)
	}
}

// P16.1: a KpPriPar in each place inside another one.
func TestPriPar(t *testing.T) {
	const inner = "pri par|.skip|.stop"
	for _, s := range []string{"@", "seq|.@", "par|.skip|.@", "while 1|.@", "if|.1|..@", "if|.0|..skip|.1|..seq|...@", "alt|.1 & skip|..@", "pri alt|.1 & c2 ? INT v0|..@", "pri par|.skip|.@"} {
		checkMay(t, true, inside(s, inner), inside("pri par|.skip|.@", inside(s, inner)), inside("seq|.pri par|..stop|..skip|.@", inside(s, inner)), inside("par|.@|.@", inside(s, inner)))
		checkMay(t, false, inside("pri par|.@|.skip", inside(s, inner)), inside("seq|.pri par|..@|..skip", inside(s, inner)), inside("pri par|.skip|.pri par|..@|..skip", inside(s, inner)), inside("pri par|.@|.skip", inside("pri par|.skip|.@", inside(s, inner))))
	}
}

// inside returns the text of a process with the one of another in place of each @.
func inside(outer, inner string) string { return insideAt(outer, "@", inner) }

func insideAt(outer, mark, inner string) string {
	var rows []string
	for x := range strings.SplitSeq(outer, "|") {
		before, ok := strings.CutSuffix(x, mark)
		if !ok {
			rows = append(rows, x)
			continue
		}
		for y := range strings.SplitSeq(inner, "|") {
			rows = append(rows, before+y)
		}
	}
	return strings.Join(rows, "|")
}

// P16.1: the depth of processes, and how many there are.
func TestProcLimits(t *testing.T) {
	for _, s := range []string{"seq|.@", "par|.@", "while 1|.@", "if|.1|..@", "alt|.1 & skip|..@", "pri alt|.1 & after 1|..@", "par|.skip|.@"} {
		inner := "skip"
		for range 31 {
			inner = inside(s, inner)
		}
		checkMay(t, true, inner)
		checkMay(t, false, inside(s, inner), inside("seq|.@", inner), inside("seq|.skip|.@|.skip", inner), inside("if|.1|..@", inner), inside("pri par|.skip|.@", inner))
	}
	skip, choices := kproc("skip"), kproc("if"+strings.Repeat("|.1|..skip", 16))
	for _, c := range []struct {
		p    api.KProc
		want bool
	}{
		{api.KProc{Kind: api.KpSeq, L: slices.Repeat([]api.KProc{skip}, 2047)}, true},
		{api.KProc{Kind: api.KpSeq, L: slices.Repeat([]api.KProc{skip}, 2048)}, false},
		{api.KProc{Kind: api.KpSeq, L: append(slices.Repeat([]api.KProc{choices}, 120), slices.Repeat([]api.KProc{skip}, 7)...)}, true},
		{api.KProc{Kind: api.KpSeq, L: append(slices.Repeat([]api.KProc{choices}, 120), slices.Repeat([]api.KProc{skip}, 8)...)}, false},
		{api.KProc{Kind: api.KpSeq, L: append(slices.Repeat([]api.KProc{skip}, 2030), choices)}, true},
		{api.KProc{Kind: api.KpSeq, L: append(slices.Repeat([]api.KProc{skip}, 2031), choices)}, false},
	} {
		checkRoot(t, c.p, c.want)
		if n := kernel.Size(c.p); n <= 2048 != c.want {
			t.Errorf("Size is %d", n)
		}
	}
}
