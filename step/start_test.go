package step_test

import (
	"slices"
	"strings"
	"testing"

	"transputer/api"
	"transputer/step"
)

// normalForms are processes and their normal forms.
var normalForms = [][2]string{
	{"skip", "skip"}, {"stop", "stop"}, {"clear v0", "clear v0"}, {"v0 := 1", "v0 := 1"}, {"c0 ? INT v0", "c0 ? INT v0"},
	{"c1 ! INT 3", "c1 ! INT 3"}, {"time v0", "time v0"}, {"after 3", "after 3"},
	{"seq", "skip"}, {"seq|.skip", "skip"}, {"seq|.stop", "stop"}, {"seq|.skip|.skip", "skip"}, {"seq|.skip|.stop", "stop"},
	{"seq|.stop|.skip", "seq|.stop|.skip"}, {"seq|.skip|.stop|.skip", "seq|.stop|.skip"}, {"seq|.skip|.skip|.skip|.stop|.seq", "seq|.stop|.seq"},
	{"seq|.seq", "skip"}, {"seq|.seq|.seq", "skip"}, {"seq|.seq|..seq|...skip|.par", "skip"}, {"seq|.seq|..stop", "stop"},
	{"seq|.seq|..stop|.skip", "seq|.stop|.skip"}, {"seq|.seq|..stop|..stop", "seq|.stop|.stop"}, {"seq|.seq|..stop|..skip|.seq", "seq|.seq|..stop|..skip|.seq"},
	{"seq|.seq|..skip|..stop|..skip|.stop", "seq|.seq|..stop|..skip|.stop"}, {"seq|.seq|..skip|..stop|.stop", "seq|.stop|.stop"},
	{"seq|.skip|.seq|..skip|..stop", "stop"}, {"seq|.skip|.seq|..seq|...skip|..stop|.skip", "seq|.stop|.skip"},
	{"seq|.stop|.seq|..skip|..stop", "seq|.stop|.seq|..skip|..stop"}, {"seq|.stop|.par", "seq|.stop|.par"}, {"seq|.seq|..seq|...seq|....stop", "stop"},
	{"par", "skip"}, {"par|.skip", "skip"}, {"par|.skip|.skip|.skip", "skip"}, {"par|.stop", "par|.stop"}, {"par|.skip|.stop", "par|.skip|.stop"},
	{"par|.stop|.skip", "par|.stop|.skip"}, {"par|.skip|.skip|.stop|.skip", "par|.skip|.skip|.stop|.skip"}, {"par|.seq|.par|.seq|..par", "skip"},
	{"par|.seq|.stop|.seq|..stop", "par|.skip|.stop|.stop"}, {"par|.par|..stop", "par|.par|..stop"}, {"par|.par|..skip|..skip|.par|..seq|..seq|...stop", "par|.skip|.par|..skip|..stop"},
	{"par|.seq|..skip|..skip|..stop|..seq|.seq|..stop|..seq", "par|.seq|..stop|..seq|.seq|..stop|..seq"}, {"par|.par|..par|...par", "skip"},
	{"pri par|.skip|.skip", "skip"}, {"pri par|.stop|.skip", "pri par|.stop|.skip"}, {"pri par|.skip|.stop", "pri par|.skip|.stop"},
	{"pri par|.seq|..stop|.par", "pri par|.stop|.skip"}, {"pri par|.seq|.par|..seq", "skip"}, {"pri par|.skip|.pri par|..skip|..seq|...stop", "pri par|.skip|.pri par|..skip|..stop"},
	{"seq|.par|..skip|..seq|.stop|.skip", "seq|.stop|.skip"}, {"seq|.par|..seq|...stop|.skip", "seq|.par|..stop|.skip"}, {"seq|.par|.par", "skip"}, {"par|.seq|..par|..par|...stop", "par|.par|..stop"},
	{"if", "if"}, {"alt", "alt"}, {"pri alt", "pri alt"}, {"if|.1|..seq", "if|.1|..seq"}, {"alt|.1 & skip|..par|...skip", "alt|.1 & skip|..par|...skip"}, {"pri alt|.1 & c0 ? INT v0|..seq|...skip", "pri alt|.1 & c0 ? INT v0|..seq|...skip"},
	{"while 1|.seq", "while 1|.seq"}, {"while 0|.par|..skip", "while 0|.par|..skip"}, {"seq|.while 1|..seq|.skip", "seq|.while 1|..seq|.skip"}, {"seq|.skip|.if|..1|...seq", "if|.1|..seq"},
	{"seq|.seq|..skip|.if|..1|...seq|....skip|.seq|..skip", "seq|.if|..1|...seq|....skip|.seq|..skip"},
}

// P18.1: the Root of the first state is the normal form of the kernel's, and the only one of both that a state may have.
func TestNormalForms(t *testing.T) {
	for _, c := range normalForms {
		k := kernelOf(someVars, 3, c[0])
		s := start(t, k, 1, 2)
		if want := kproc(c[1]); !equal(s.Root, want) || !equal(want, normalByRules(k.Root)) {
			t.Errorf("the normal form of %s is %s, not %s", c[0], brief(s.Root), c[1])
		}
		checkMay(t, k, s, true)
		s.Root = k.Root
		checkMay(t, k, s, c[0] == c[1])
	}
}

// P18.1: what a component becomes is in normal form with what is around it.
func TestNormalAfter(t *testing.T) {
	k := some()
	for _, c := range normalForms {
		body := kproc(c[0])
		high := slices.ContainsFunc(allIn(body), func(p api.KProc) bool { return p.Kind == api.KpPriPar })
		for _, choice := range []string{"if|.1|..skip", "wait|.1 & skip|..skip"} {
			s := at("skip")
			s.Root = replacedBody(kproc(choice), body)
			checkMoves(t, s, "tau @ "+c[1])
			for _, around := range []string{"seq|.stop|.v0 := 1", "par|.stop|.skip", "par|.stop|.v0 := 1", "pri par|.stop|.skip", "seq|.par|..stop|..skip|.clear v0"} {
				if high && strings.HasPrefix(around, "pri par") {
					continue
				}
				first := pathsOf(kproc(around))[0]
				inside, after := s, s
				inside.Root = replaced(kproc(around), first, s.Root)
				after.Root = normalByRules(replaced(kproc(around), first, body))
				if got := step.Moves(k, inside); len(got) == 0 || !equal(got[0], api.Move{Kind: api.MvTau, Next: after}) {
					t.Errorf("%s has the moves %s", brief(inside), brief(got))
				}
			}
		}
	}
}

// replacedBody returns a choice with another process in the body of its only guard.
func replacedBody(p, body api.KProc) api.KProc {
	p.Guards = slices.Clone(p.Guards)
	p.Guards[0].Body = []api.KProc{body}
	return p
}

// P18.1: the parts of the first state.
func TestStart(t *testing.T) {
	for _, c := range []struct{ vars, store string }{{"", ""}, {"INT", "0"}, {"BYTE BOOL [3]INT", "0; 0; 0 0 0"}, {someVars, "0; 0; 0; 0 0 0; 0 0; 0 0"}} {
		for _, in := range [][]int32{nil, {}, {5}, {0, -1, 2147483647, -2147483648}, slices.Repeat([]int32{3}, 100000)} {
			k := kernelOf(c.vars, 2, "seq|.skip|.stop|.c1 ! INT 1")
			want := api.State{Store: storeOf(c.store), Root: kproc("seq|.stop|.c1 ! INT 1"), In: in}
			s, e := step.Start(k, in)
			if e != api.OK || !equal(s, want) {
				t.Errorf("Start(%s, %s) = %s, %v", brief(k), brief(in), brief(s), e)
			}
			checkMay(t, k, s, true)
		}
	}
	k := kernelOf("INT", 3, "par|.seq|..c2 ! INT 1|..stop|.seq|..skip|..c2 ? INT v0")
	k.Procs = []int{3, 5}
	if s := start(t, k, 7); !equal(s, api.State{Store: storeOf("0"), Root: kproc("par|.seq|..c2 ! INT 1|..stop|.c2 ? INT v0"), In: []int32{7}}) {
		t.Error(s)
	}
}

// notValid are kernels that are not valid.
func notValid() []api.Kernel {
	chans, vars, procs, kind, host := some(), some(), some(), some(), some()
	chans.Chans = chans.Chans[:1]
	vars.Vars = append(vars.Vars, api.Var{Kind: api.TyChan})
	procs.Procs = []int{0}
	kind.Root.Kind = 0
	host.Chans = []api.HostKind{api.HostOut, api.HostIn}
	l := []api.Kernel{{}, chans, vars, procs, kind, host}
	for _, root := range []string{"clear v6", "c1 ? INT v0", "c0 ! INT 3", "c5 ! INT 3", "seq|.c2 ! BYTE 256", "while v0|.skip", "pri par|.skip", "pri par|.pri par|..skip|..skip|.skip", "wait", "par|.wait|..1 & skip|...skip|.skip", "alt|.1|..skip", "if|.1 & skip|..skip", "v0 := v1", "seq|.skip|.v3 := 1", "par|.skip|.if|..1"} {
		l = append(l, kernelOf(someVars, 5, root))
	}
	deep, wide := some(), some()
	for range 32 {
		deep.Root = api.KProc{Kind: api.KpPar, L: []api.KProc{deep.Root}}
	}
	wide.Root = api.KProc{Kind: api.KpSeq, L: slices.Repeat([]api.KProc{kproc("skip")}, 2048)}
	return append(l, deep, wide)
}

// P18.1: a kernel that is not valid has no states.
func TestNotValid(t *testing.T) {
	for _, k := range notValid() {
		for _, in := range [][]int32{nil, {4, 5}} {
			if s, e := step.Start(k, in); e != api.ErrArg || !equal(s, api.State{}) {
				t.Errorf("Start(%s) = %s, %v", brief(k), brief(s), e)
			}
		}
		checkMay(t, k, at("skip"), false)
		checkMay(t, k, api.State{}, false)
		checkMay(t, k, api.State{Store: make([][]int32, len(k.Vars)), Root: k.Root}, false)
	}
	deepest := some()
	for range 31 {
		deepest.Root = api.KProc{Kind: api.KpPar, L: []api.KProc{deepest.Root}}
	}
	if s := start(t, deepest); !step.Done(s) {
		t.Error(s)
	}
}
