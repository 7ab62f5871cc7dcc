package scope_test

import (
	"slices"
	"strings"
	"testing"

	"transputer/api"
	"transputer/scope"
	"transputer/syntax"
)

// checkInvalid checks that all functions refuse p, whatever names there are.
func checkInvalid(t *testing.T, what string, p api.Process) {
	t.Helper()
	if l, e := scope.Free(p); e != api.ErrArg || len(l) != 0 {
		t.Errorf("Free of %s: %q, %d", what, l, e)
	}
	for _, names := range [][]string{nil, {}, {"x", "y", ""}} {
		if name, e := scope.Check(p, names); e != api.ErrArg || name != "" {
			t.Errorf("Check of %s with %q: %q, %d", what, names, name, e)
		}
	}
	if q, e := scope.Unique(p); e != api.ErrArg || !syntax.Same(q, api.Process{}) {
		t.Errorf("Unique of %s: %s, %d", what, shown(q), e)
	}
	if scope.Alike(p, p) || scope.Alike(p, proc("SKIP")) || scope.Alike(proc("SKIP"), p) || scope.Alike(p, api.Process{}) {
		t.Errorf("Alike of %s", what)
	}
}

// P12.1, R2: ErrArg is ahead of all other errors, wherever in the process it comes from.
func TestInvalid(t *testing.T) {
	const twice = "SEQ/.x := y/.INT z, z:/.SKIP/.c ! x"
	for what, change := range map[string]func(p *api.Process){
		"a kind that there is not":        func(p *api.Process) { p.Kind = api.PrSpec + 1 },
		"no kind":                         func(p *api.Process) { p.L[2].Kind = api.NoProc },
		"a field of another kind":         func(p *api.Process) { p.L[0].Name = "x" },
		"a name that is none":             func(p *api.Process) { p.L[1].Spec.Names[1] = "1z" },
		"an empty name":                   func(p *api.Process) { p.L[1].Spec.Names[0] = "" },
		"a reserved word":                 func(p *api.Process) { p.L[0].Exprs[0].S = "SEQ" },
		"no names":                        func(p *api.Process) { p.L[1].Spec.Names = nil },
		"nine names":                      func(p *api.Process) { p.L[1].Spec.Names = strings.Fields("a b c d e f g h a") },
		"a type that there is not":        func(p *api.Process) { p.L[1].Spec.Type.Proto = "q" },
		"an expression that is not valid": func(p *api.Process) { p.L[2].Exprs[0].L = []api.Expr{{}} },
		"no expression to be sent":        func(p *api.Process) { p.L[2].Exprs = nil },
		"no channel":                      func(p *api.Process) { p.L[2].Chan = api.Expr{} },
		"a replicator of two":             func(p *api.Process) { p.Rep = proc("SEQ i = x FOR y/.SKIP").Rep },
		"a replicator without a name":     func(p *api.Process) { p.Rep.Base = api.Expr{Kind: api.ExName, S: "x"} },
		"a guard": func(p *api.Process) {
			p.Guards = []api.Guard{{Kind: api.GuElse, Body: []api.Process{{Kind: api.PrSkip}}}}
		},
		"no scope":            func(p *api.Process) { p.L[1].L = nil },
		"a processor":         func(p *api.Process) { p.Procs = []int{0} },
		"a PLACED PAR inside": func(p *api.Process) { p.L[1].L[0] = proc("PLACED PAR/.PROCESSOR 0/..SKIP") },
	} {
		p := proc(twice)
		change(&p)
		checkInvalid(t, what, p)
	}
	checkOccurrences(t, proc(twice), "x y z!")
	checkInvalid(t, "nothing", api.Process{})
}

// nested returns p with so many processes around it, each made by another one of a few functions.
func nested(p api.Process, n int) api.Process {
	declare := api.Spec{Kind: api.SpDeclare, Type: api.Type{Kind: api.TyInt}, Names: []string{"x", "x"}}
	for i := range n {
		l := []api.Process{p}
		switch i % 4 {
		case 0:
			p = api.Process{Kind: api.PrSeq, L: l}
		case 1:
			p = api.Process{Kind: api.PrSpec, Spec: declare, L: l}
		case 2:
			p = api.Process{Kind: api.PrIf, Guards: []api.Guard{{Kind: api.GuIf, Cond: api.Expr{Kind: api.ExName, S: "x"}, Body: l}}}
		case 3:
			p = api.Process{Kind: api.PrSpec, Spec: api.Spec{Kind: api.SpProc, Names: []string{"x"}, Body: l}, L: []api.Process{{Kind: api.PrSkip}}}
		}
	}
	return p
}

// P12.1, P0.1, R1: processes that are too large or too deep, or that contain themselves.
func TestLarge(t *testing.T) {
	const million = 1 << 20
	skip := api.Process{Kind: api.PrSkip}
	x := api.Expr{Kind: api.ExName, S: "x"}
	row := slices.Repeat([]api.Process{skip}, million/1024)
	checkInvalid(t, "a million processes side by side", api.Process{Kind: api.PrSeq, L: slices.Repeat([]api.Process{{Kind: api.PrSeq, L: row}}, 1024)})
	checkInvalid(t, "a million processes one inside the other", nested(skip, million))
	checkInvalid(t, "a million guards", api.Process{Kind: api.PrIf, Guards: slices.Repeat([]api.Guard{{Kind: api.GuIf, Cond: x, Body: []api.Process{skip}}}, million)})
	deep := x
	for range million {
		deep = api.Expr{Kind: api.ExIndex, S: "x", L: []api.Expr{deep}}
	}
	checkInvalid(t, "a million expressions", api.Process{Kind: api.PrAssign, Targets: []api.Expr{deep}, Exprs: []api.Expr{x}})
	checkInvalid(t, "a million names", api.Process{Kind: api.PrSpec, Spec: api.Spec{Kind: api.SpDeclare, Type: api.Type{Kind: api.TyInt}, Names: slices.Repeat([]string{"x"}, million)}, L: []api.Process{skip}})
	around := make([]api.Process, 1)
	around[0] = api.Process{Kind: api.PrSeq, L: around}
	checkInvalid(t, "a process in itself", around[0])

	wide := api.Process{Kind: api.PrPar, L: slices.Repeat([]api.Process{proc("x := y")}, api.MaxTree-1)}
	checkFree(t, wide, "x y")
	checkUnique(t, wide, wide)
	wide.L = append(wide.L, skip)
	checkInvalid(t, "one process too many", wide)
}

// P12.1: shared lists are no fault, and what is returned does not share them.
func TestSharedLists(t *testing.T) {
	l := []api.Process{proc("INT x:/x := y")}
	for range 10 {
		l = []api.Process{{Kind: api.PrSeq, L: l}, {Kind: api.PrSeq, L: l}}
	}
	p := api.Process{Kind: api.PrPar, L: l[:1]}
	want, _ := uniqueByRules(p)
	q, e := scope.Unique(p)
	if e != api.OK || !syntax.Same(q, want) || overlap(q) {
		t.Errorf("Unique(%s) = %s, %d", shown(p), shown(q), e)
	}
}
