package alias_test

import (
	"fmt"
	"slices"
	"testing"

	"transputer/alias"
	"transputer/api"
)

// checkError checks that Check returns this error without a name, and Reads and Writes no names.
func checkError(t *testing.T, what string, p api.Process, e api.Errno) {
	t.Helper()
	if name, f := alias.Check(p); name != "" || f != e {
		t.Errorf("Check of %s: %q, %d, not %d", what, name, f, e)
	}
	if r, w := alias.Reads(p), alias.Writes(p); len(r) > 0 || len(w) > 0 {
		t.Errorf("Reads and Writes of %s: %q and %q", what, r, w)
	}
}

// P15.1, R2: ErrArg is ahead of all other errors, wherever in the process it comes from.
func TestInvalid(t *testing.T) {
	const p = "SEQ/.x, x := y, z/.INT z, z:/.SKIP/.c ! x/.INT a IS b:/.b := 1"
	for what, change := range map[string]func(p *api.Process){
		"a kind that there is not":        func(p *api.Process) { p.Kind = api.PrSpec + 1 },
		"no kind":                         func(p *api.Process) { p.L[2].Kind = api.NoProc },
		"a field of another kind":         func(p *api.Process) { p.L[0].Name = "x" },
		"a name that is none":             func(p *api.Process) { p.L[1].Spec.Names[1] = "1z" },
		"an empty name":                   func(p *api.Process) { p.L[1].Spec.Names[0] = "" },
		"a reserved word":                 func(p *api.Process) { p.L[0].Exprs[0].S = "SEQ" },
		"no names":                        func(p *api.Process) { p.L[1].Spec.Names = nil },
		"no name of an abbreviation":      func(p *api.Process) { p.L[3].Spec.Names = []string{} },
		"an empty name of one":            func(p *api.Process) { p.L[3].Spec.Names[0] = "" },
		"two names of one":                func(p *api.Process) { p.L[3].Spec.Names = []string{"a", "b"} },
		"an abbreviation of nothing":      func(p *api.Process) { p.L[3].Spec.E = api.Expr{} },
		"an abbreviation of a sum":        func(p *api.Process) { p.L[3].Spec.E = proc("x := 1 + b").Exprs[0] },
		"an index without L":              func(p *api.Process) { p.L[3].Spec.E.Kind = api.ExIndex },
		"an expression that is not valid": func(p *api.Process) { p.L[2].Exprs[0].L = []api.Expr{{}} },
		"no expression to be sent":        func(p *api.Process) { p.L[2].Exprs = nil },
		"no channel":                      func(p *api.Process) { p.L[2].Chan = api.Expr{} },
		"no targets":                      func(p *api.Process) { p.L[0].Targets = nil },
		"nine targets":                    func(p *api.Process) { p.L[0].Targets = slices.Repeat(p.L[0].Targets[:1], 9) },
		"a target that is no element":     func(p *api.Process) { p.L[0].Targets[1] = proc("x := SIZE x").Exprs[0] },
		"a call without a name":           func(p *api.Process) { p.L[2] = api.Process{Kind: api.PrCall} },
		"nine actuals": func(p *api.Process) {
			p.L[2] = api.Process{Kind: api.PrCall, Name: "p", Exprs: slices.Repeat(p.L[2].Exprs, 9)}
		},
		"a procedure without a body": func(p *api.Process) { p.L[3].Spec = api.Spec{Kind: api.SpProc, Names: []string{"p"}} },
		"a guard": func(p *api.Process) {
			p.Guards = []api.Guard{{Kind: api.GuElse, Body: []api.Process{{Kind: api.PrSkip}}}}
		},
		"a guard without a body": func(p *api.Process) {
			p.L[2] = api.Process{Kind: api.PrIf, Guards: []api.Guard{{Kind: api.GuIf, Cond: proc("x := x").Exprs[0]}}}
		},
		"no scope":            func(p *api.Process) { p.L[1].L = nil },
		"a PLACED PAR inside": func(p *api.Process) { p.L[1].L[0] = proc("PLACED PAR/.PROCESSOR 0/..SKIP") },
	} {
		q := proc(p)
		change(&q)
		checkError(t, what, q, api.ErrArg)
	}
	checkError(t, "nothing", api.Process{}, api.ErrArg)
	checkError(t, "the process itself", proc(p), api.ErrTwice)
}

// P15.1: ErrTwice is ahead of ErrAlias, whatever comes first.
func TestTwice(t *testing.T) {
	for _, s := range []string{
		"INT x, x:/SKIP", "INT x, y, x:/x, x := 1, 2", "SEQ/.a, a := 1, 2/.INT x, x:/.SKIP", "PROC p(INT u, VAL INT u)/.SKIP/:/p(n, n)", "VAL INT x IS n:/INT y, y:/n := 1",
		"PROC p()/.INT x, x:/.SKIP/:/SKIP", "ALT/.c ? a; a/..INT x, x:/..SKIP",
	} {
		checkError(t, s, proc(s), api.ErrTwice)
		checkError(t, s, proc(inside("SEQ/.x := y/.@", s)), api.ErrTwice)
	}
}

// nested returns p with so many processes around it, each made by another one of a few functions.
func nested(p api.Process, n int) api.Process {
	element := api.Expr{Kind: api.ExName, S: "x"}
	for i := range n {
		l := []api.Process{p}
		switch i % 4 {
		case 0:
			p = api.Process{Kind: api.PrSeq, L: l}
		case 1:
			p = api.Process{Kind: api.PrSpec, Spec: api.Spec{Kind: api.SpIs, Type: api.Type{Kind: api.TyInt}, Names: []string{"x"}, E: element}, L: l}
		case 2:
			p = api.Process{Kind: api.PrAlt, Guards: []api.Guard{{Kind: api.GuInput, Chan: element, Targets: []api.Expr{element, element}, Body: l}}}
		case 3:
			p = api.Process{Kind: api.PrSpec, Spec: api.Spec{Kind: api.SpProc, Names: []string{"x"}, Body: l}, L: []api.Process{{Kind: api.PrCall, Name: "x"}}}
		}
	}
	return p
}

// P15.1, P0.1, R1: processes that are too large or too deep, or that contain themselves.
func TestLarge(t *testing.T) {
	const million = 1 << 20
	skip := api.Process{Kind: api.PrSkip}
	x := api.Expr{Kind: api.ExName, S: "x"}
	row := slices.Repeat([]api.Process{skip}, million/1024)
	checkError(t, "a million processes side by side", api.Process{Kind: api.PrSeq, L: slices.Repeat([]api.Process{{Kind: api.PrSeq, L: row}}, 1024)}, api.ErrArg)
	checkError(t, "a million processes one inside the other", nested(skip, million), api.ErrArg)
	checkError(t, "a million guards", api.Process{Kind: api.PrIf, Guards: slices.Repeat([]api.Guard{{Kind: api.GuIf, Cond: x, Body: []api.Process{skip}}}, million)}, api.ErrArg)
	deep := x
	for range million {
		deep = api.Expr{Kind: api.ExIndex, S: "x", L: []api.Expr{deep}}
	}
	checkError(t, "a million expressions", api.Process{Kind: api.PrAssign, Targets: []api.Expr{deep}, Exprs: []api.Expr{x}}, api.ErrArg)
	checkError(t, "a million targets", api.Process{Kind: api.PrAssign, Targets: slices.Repeat([]api.Expr{x}, million), Exprs: []api.Expr{x}}, api.ErrArg)
	checkError(t, "a million actuals", api.Process{Kind: api.PrCall, Name: "p", Exprs: slices.Repeat([]api.Expr{x}, million)}, api.ErrArg)
	checkError(t, "a million names", api.Process{Kind: api.PrSpec, Spec: api.Spec{Kind: api.SpDeclare, Type: api.Type{Kind: api.TyInt}, Names: slices.Repeat([]string{"x"}, million)}, L: []api.Process{skip}}, api.ErrArg)
	around := make([]api.Process, 1)
	around[0] = api.Process{Kind: api.PrSeq, L: around}
	checkError(t, "a process in itself", around[0], api.ErrArg)
	index := make([]api.Expr, 1)
	index[0] = api.Expr{Kind: api.ExIndex, S: "x", L: index}
	checkError(t, "an expression in itself", api.Process{Kind: api.PrAssign, Targets: index, Exprs: index}, api.ErrArg)
	body := make([]api.Process, 1)
	body[0] = api.Process{Kind: api.PrSpec, Spec: api.Spec{Kind: api.SpProc, Names: []string{"p"}, Body: body}, L: []api.Process{{Kind: api.PrCall, Name: "p"}}}
	checkError(t, "a procedure in its body", body[0], api.ErrArg)

	wide := api.Process{Kind: api.PrPar, L: slices.Repeat([]api.Process{proc("x := y")}, api.MaxTree-1)}
	checkProcess(t, wide, "")
	checkNames(t, wide, "x y", "x")
	wide.L = append(wide.L, skip)
	checkError(t, "one process too many", wide, api.ErrArg)
}

// specified returns last in the scopes of so many specifications.
func specified(n int, spec func(i int) api.Spec, last api.Process) api.Process {
	p := last
	for i := n; i > 0; i-- {
		p = api.Process{Kind: api.PrSpec, Spec: spec(i), L: []api.Process{p}}
	}
	return p
}

// abbreviation returns a specification of the name xi by the one before it. x0 is the name n.
func abbreviation(i int) api.Spec {
	e := api.Expr{Kind: api.ExName, S: fmt.Sprint("x", i-1)}
	if i == 1 {
		e.S = "n"
	}
	return api.Spec{Kind: api.SpIs, Type: api.Type{Kind: api.TyInt}, Names: []string{fmt.Sprint("x", i)}, E: e}
}

func value(i int) api.Spec {
	s := abbreviation(i)
	s.Kind = api.SpVal
	return s
}

// P15.1, R1: as many abbreviations as there can be, each of the one before it.
func TestChainsOfAbbreviations(t *testing.T) {
	const n = api.MaxTree - 1
	last := fmt.Sprint("x", n)
	checkProcess(t, specified(n, abbreviation, proc(last+" := m")), "")
	checkNames(t, specified(n, abbreviation, proc(last+" := m")), "m n", "n")
	checkProcess(t, specified(n, abbreviation, proc("m := n")), "x1")
	checkProcess(t, specified(n, abbreviation, proc("m := x1")), "x2")
	checkProcess(t, specified(n, abbreviation, proc("m := x1999")), "x2000")
	checkProcess(t, specified(n, value, proc("m := "+last)), "")
	checkNames(t, specified(n, value, proc("m := "+last)), "m n", "m")
	checkProcess(t, specified(n, value, proc("n := 1")), "x1")
	checkProcess(t, specified(n, value, proc("x1999 := 1")), "x2000")
	checkProcess(t, specified(n-1, abbreviation, specified(1, func(int) api.Spec { return value(n) }, proc(fmt.Sprint("x", n-1, " := 1")))), last)
	checkError(t, "one abbreviation too many", specified(n+1, abbreviation, proc("n := 1")), api.ErrArg)
	deep := "x1"
	for range api.MaxDepth - 1 {
		deep = "v[" + deep + "]"
	}
	checkText(t, "INT x1 IS n:/VAL INT x IS "+deep+":/x1 := 1", "x")
	checkText(t, "INT x1 IS n:/INT x IS "+deep+":/x1 := 1", "x")
	checkText(t, "INT x1 IS n:/INT x IS "+deep+":/m := x1", "")
}

// P15.1, R1: values of as many names as there can be, in the scopes of each other, and processes that are as large as they can be.
func TestManyNames(t *testing.T) {
	spec := proc("VAL INT x IS 1:/SKIP").Spec
	spec.E = api.Expr{Kind: api.ExMonadic, Oper: api.OperNeg, L: []api.Expr{sum(7)}}
	same := func(int) api.Spec { return spec }
	checkProcess(t, specified(api.MaxTree-1, same, proc("m := x")), "")
	checkProcess(t, specified(api.MaxTree-1, same, proc("y128 := x")), "x")
	checkProcess(t, specified(api.MaxTree-1, same, proc("m, y1 := 1, x")), "x")

	assign := api.Process{Kind: api.PrAssign, Targets: proc("m := 1").Targets, Exprs: slices.Repeat([]api.Expr{spec.E}, 8)}
	p := specified(api.MaxTree/2-1, same, api.Process{Kind: api.PrSeq, L: slices.Repeat([]api.Process{assign}, api.MaxTree/2)})
	checkProcess(t, p, "")
	if l := alias.Reads(p); len(l) != 129 || l[0] != "m" || l[128] != "y99" {
		t.Error(l)
	}
}

// sum returns a sum of sums, so deep, of names that are all different.
func sum(depth int) api.Expr {
	names := 0
	var part func(depth int) api.Expr
	part = func(depth int) api.Expr {
		if depth == 0 {
			names++
			return api.Expr{Kind: api.ExName, S: fmt.Sprint("y", names)}
		}
		return api.Expr{Kind: api.ExDyadic, Oper: api.OperAdd, L: []api.Expr{part(depth - 1), part(depth - 1)}}
	}
	return part(depth)
}

// procedures returns procedures, each of which calls the one before it so many times, around a process. The first one has this body.
func procedures(n, calls int, formals, actuals, body string, last api.Process) api.Process {
	return specified(n, func(i int) api.Spec {
		s := proc(fmt.Sprintf("PROC p%d(%s)/.%s/:/SKIP", i, formals, body)).Spec
		if i > 1 {
			s.Body[0] = api.Process{Kind: api.PrSeq, L: slices.Repeat([]api.Process{proc(fmt.Sprintf("p%d(%s)", i-1, actuals))}, calls)}
		}
		return s
	}, last)
}

// P15.1, R1: procedures to which very many ways lead.
func TestChainsOfProcedures(t *testing.T) {
	for _, calls := range []int{2, 5} {
		n := (api.MaxTree - 10) / (calls + 2)
		last := fmt.Sprint("p", n)
		for _, c := range [][2]string{{"SKIP", ""}, {last + "(m, 1)", ""}, {last + "(n, 1)", last}, {"VAL INT x IS n:/" + last + "(m, 1)", "x"}, {"VAL INT x IS k:/" + last + "(m, 1)", ""}, {last + "(m, n)", last}, {last + "(m, k)", ""}, {last + "(m, u)", ""}} {
			checkProcess(t, procedures(n, calls, "INT u, VAL INT w", "u, w", "n := k", proc(c[0])), c[1])
		}
		p := procedures(n, calls, "INT u, VAL INT w", "u, w", "n := k", proc(last+"(m, 1)"))
		checkNames(t, p, "k m n", "m n")
		x := proc("VAL INT x IS m:/SKIP")
		x.L[0] = procedures(n, calls, "INT u", "m", "c ! 1", proc(last+"(k)"))
		checkProcess(t, x, "x")
		checkProcess(t, x.L[0], "p2")
		x.L[0] = procedures(n, calls, "VAL INT u", "m", "c ! 1", proc(last+"(k)"))
		checkProcess(t, x, "")
		checkProcess(t, procedures(n, calls, "INT u", "m", "m := 1", proc(last+"(k)")), "p1")
	}
	// Each procedure inside the one before it, as deep as they can be.
	s := "n := 1"
	for i := range 30 {
		s = inside(fmt.Sprintf("PROC p%d()/.@/:/SEQ/.p%d()/.p%d()", i, i, i), s)
	}
	checkText(t, s, "")
	checkText(t, "VAL INT x IS n:/"+s, "x")
	checkText(t, inside("PROC q(INT u)/.@/:/q(n)", s), "q")
	checkText(t, inside("PROC q(INT u)/.@/:/q(m)", s), "")
}
