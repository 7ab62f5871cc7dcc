package kernel_test

import (
	"fmt"
	"slices"
	"strings"
	"testing"

	"transputer/api"
	"transputer/kernel"
)

// counting returns a process of which so many processes are elaborated, from 18 on.
func counting(n int) api.Process {
	p := proc("SEQ")
	part := proc("SEQ i = 0 FOR 16|.SKIP")
	for n > 18 {
		p.L = append(p.L, part)
		n -= 17
	}
	p.L = append(p.L, slices.Repeat([]api.Process{proc("SKIP")}, n-1)...)
	return p
}

func seq(l ...api.Process) api.Process { return api.Process{Kind: api.PrSeq, L: l} }

// P16.2: the count of processes, one by one, in each way in which they are elaborated. Behind them comes one that cannot be.
func TestCount(t *testing.T) {
	bad := proc("to.host ! 1")
	bad.Chan = proc("x[2] ! 1").Chan
	channels := proc("[2]CHAN OF INT x:|SKIP")
	for _, c := range []struct {
		s string
		n int // how many are elaborated
	}{
		{"SKIP", 1}, {"STOP", 1}, {"SEQ", 1}, {"SEQ|.SKIP|.SKIP", 3}, {"PAR|.SKIP|.SEQ|..SKIP", 4}, {"PRI PAR|.SKIP|.STOP", 3}, {"WHILE TRUE|.SKIP", 2}, {"IF|.TRUE|..SKIP|.TRUE|..STOP", 3}, {"ALT|.TRUE & SKIP|..SEQ|...SKIP", 3}, {"CASE 1|.1|..SKIP|.2, 3|..SKIP|.ELSE|..STOP", 4},
		{"to.host ! 1", 1}, {"PROTOCOL q IS INT; INT; INT:|CHAN OF q c:|c ! 1; 2; 3", 3}, {"PROTOCOL q|.CASE|..a|..b; INT|:|CHAN OF q c:|INT y:|c ? CASE|.a|..SKIP|.b; y|..SKIP", 6}, {"INT y:|y := 1", 2}, {"INT y, z:|[3]INT v:|VAL INT k IS 1:|y := k", 4}, {"PROTOCOL q IS INT:|TIMER t:|SKIP", 3},
		{"SEQ i = 0 FOR 16|.SKIP", 17}, {"PAR i = 0 FOR 5|.SEQ|..SKIP|..SKIP", 16}, {"IF i = 0 FOR 4|.TRUE|..SKIP", 5}, {"ALT i = 0 FOR 4|.TRUE & SKIP|..INT y:|..SKIP", 9}, {"SEQ i = 0 FOR 0|.SEQ|..SKIP", 1}, {"SEQ i = 0 FOR 17|.SKIP", 2}, {"INT y:|SEQ i = 0 FOR y|.SEQ|..SKIP", 4}, {"PAR i = 0 FOR 3|.PAR j = i FOR i|..SKIP", 7},
		{"PROC p()|.SKIP|:|SKIP", 2}, {"PROC p()|.SKIP|:|p()", 3}, {"PROC p()|.SEQ|..SKIP|..SKIP|:|SEQ|.p()|.p()", 10}, {"PROC p(VAL INT n)|.SEQ i = 0 FOR n|..SKIP|:|SEQ|.p(3)|.p(0)", 9}, {"PROC p()|.INT y:|.y := 1|:|PAR i = 0 FOR 3|.p()", 11}, {"INT y:|PROC p(VAL INT a, VAL INT b)|.SKIP|:|p(y, y)", 4},
	} {
		for _, n := range []int{2048, 2049} {
			// 1 for the SEQ, 1 for the specification, 1 for what cannot be elaborated
			p := channels
			p.L = []api.Process{seq(counting(n-3-c.n), proc(c.s), bad)}
			want := api.ErrKernel
			if n > 2048 {
				want = api.ErrLong
			}
			checkError(t, fmt.Sprint(c.s, " ", n), p, want)
		}
		p := seq(counting(2047-c.n), proc(c.s))
		if k, e := kernel.Make(p); e != api.OK || kernel.Size(k.Root) > 2048 {
			t.Errorf("%s: %v, %d", c.s, e, kernel.Size(k.Root))
		}
		checkError(t, c.s, seq(counting(2048-c.n), proc(c.s)), api.ErrLong)
		checkError(t, c.s, seq(proc(c.s), counting(2048-c.n)), api.ErrLong)
	}
}

// procedures returns so many procedures, each of which calls the one before it so many times, around a process that calls the last one.
func procedures(n, calls int) api.Process {
	p := proc(fmt.Sprintf("p%d()", n))
	for i := n; i > 0; i-- {
		around := proc(fmt.Sprintf("PROC p%d()|.SKIP|:|SKIP", i))
		if i > 1 {
			around.Spec.Body = []api.Process{seq(slices.Repeat([]api.Process{proc(fmt.Sprintf("p%d()", i-1))}, calls)...)}
		}
		around.L = []api.Process{p}
		p = around
	}
	return p
}

// P16.2, R1: procedures that call the one before them several times.
func TestChains(t *testing.T) {
	for _, c := range []struct {
		n, calls int
		want     api.Errno
	}{{1, 2, api.OK}, {8, 2, api.OK}, {9, 2, api.OK}, {10, 2, api.ErrLong}, {11, 2, api.ErrLong}, {40, 2, api.ErrLong}, {500, 2, api.ErrLong}, {6, 3, api.OK}, {7, 3, api.ErrLong}, {100, 16, api.ErrLong}, {1, 1, api.OK}, {500, 1, api.OK}, {682, 1, api.OK}, {683, 1, api.ErrArg}} {
		p := procedures(c.n, c.calls)
		k, e := kernel.Make(p)
		if leaves := len(k.Root.L); e == api.OK && c.calls == 2 && c.n > 1 && leaves != 1<<(c.n-1) {
			t.Errorf("%v: %d", c, leaves)
		}
		if e != c.want {
			t.Errorf("%v: %v, not %v", c, e, c.want)
		}
	}
	// Bodies that are calls, each inside the other: as deep as can be.
	n := 600
	p := proc(fmt.Sprintf("p%d(1)", n))
	for i := n; i > 0; i-- {
		around := proc(fmt.Sprintf("PROC p%d(VAL INT n)|.p%d(n + 1)|:|SKIP", i, i-1))
		around.L = []api.Process{p}
		p = around
	}
	first := proc("PROC p0(VAL INT n)|.to.host ! n|:|SKIP")
	first.L = []api.Process{p}
	if k, e := kernel.Make(first); e != api.OK || textOf(t, k) != "c0 in|c1 out|c1 ! INT 601" {
		t.Errorf("%v, %v", k, e)
	}
}

// P16.2: kernels that are not valid because something is above its limit.
func TestKernelLimits(t *testing.T) {
	while := func(n int) string {
		s := "SKIP"
		for range n {
			s = inside("WHILE TRUE|.@", s)
		}
		return s
	}
	pars := func(n int) string { return "PAR" + strings.Repeat("|.SKIP", n) }
	for _, c := range [][2]string{
		{while(31), while(32)}, {"SEQ|.SKIP|." + strings.ReplaceAll(while(30), "|", "|."), "SEQ|.SKIP|." + strings.ReplaceAll(while(31), "|", "|.")}, {"PROC p()|." + strings.ReplaceAll(while(16), "|", "|.") + "|:|" + inside(strings.Replace(while(15), "SKIP", "@", 1), "p()"), "PROC p()|." + strings.ReplaceAll(while(16), "|", "|.") + "|:|" + inside(strings.Replace(while(16), "SKIP", "@", 1), "p()")},
		{"[62]CHAN OF INT c:|SKIP", "[63]CHAN OF INT c:|SKIP"}, {"[31]CHAN OF INT c, d:|SKIP", "[31]CHAN OF INT c, d:|CHAN OF INT e:|SKIP"}, {"SEQ i = 0 FOR 15|.[4]CHAN OF INT c:|.SKIP", "SEQ i = 0 FOR 16|.[4]CHAN OF INT c:|.SKIP"},
		{"SEQ i = 0 FOR 16|.SEQ j = 0 FOR 8|..INT a, b:|..SKIP", "SEQ|.SEQ i = 0 FOR 16|..SEQ j = 0 FOR 8|...INT a, b:|...SKIP|.INT c:|.SKIP"}, {"SEQ i = 0 FOR 16|.SEQ j = 0 FOR 16|..CASE i", "SEQ|.SEQ i = 0 FOR 16|..SEQ j = 0 FOR 16|...CASE i|.CASE 1"},
		{"INT x:|VAL INT y IS x:|SEQ i = 0 FOR 127|.SKIP", "SEQ|" + strings.TrimSuffix(strings.Repeat(".SEQ i = 0 FOR 17|..SKIP|", 129), "|")},
		{pars(16), pars(17)}, {"PAR|.SKIP|.SEQ|.." + strings.ReplaceAll(pars(16), "|", "|.."), "PAR|.SKIP|.SEQ|.." + strings.ReplaceAll(pars(17), "|", "|..")}, {"SEQ i = 0 FOR 0|." + strings.ReplaceAll(pars(17), "|", "|."), "SEQ i = 0 FOR 1|." + strings.ReplaceAll(pars(17), "|", "|.")},
		{"INT x:|from.host ? x", "INT x:|to.host ? x"}, {"to.host ! 1", "from.host ! 1"}, {"INT x:|ALT|.from.host ? x|..SKIP", "INT x:|ALT|.to.host ? x|..SKIP"}, {"PROC p(CHAN OF INT c)|.c ! 1|:|p(to.host)", "PROC p(CHAN OF INT c)|.c ! 1|:|p(from.host)"},
		{"PROTOCOL p IS INT; INT; INT; INT; INT; INT; INT; INT:|CHAN OF p c:|SEQ i = 0 FOR 15|.SEQ j = 0 FOR 16|..c ! 1; 2; 3; 4; 5; 6; 7; 8", "PROTOCOL p IS INT; INT; INT; INT; INT; INT; INT; INT:|CHAN OF p c:|SEQ i = 0 FOR 16|.SEQ j = 0 FOR 16|..c ! 1; 2; 3; 4; 5; 6; 7; 8"},
	} {
		made(t, c[0])
		checkErrors(t, api.ErrLong, c[1])
	}
}

// P16.2: expressions that become too large or too deep, because a name in them stands for an element.
func TestLargerExpressions(t *testing.T) {
	for _, c := range []struct {
		depth, size int
		ok          bool
	}{{31, 31, true}, {32, 32, false}, {20, 254, true}, {20, 255, true}, {20, 256, false}} {
		p := proc("[2]INT v:|INT x IS v[1]:|INT y:|to.host ! x")
		x := named(deep(c.depth, c.size), "y")
		out := &p.L[0].L[0].L[0]
		out.Exprs[0] = x
		if _, e := kernel.Make(p); e != api.OK {
			t.Errorf("%v: %v", c, e)
		}
		out.Exprs[0] = named(deep(c.depth, c.size), "x")
		if c.size > 32 { // one of the names alone
			out.Exprs[0] = renamed(x, "x")
		}
		if _, e := kernel.Make(p); (e == api.OK) != c.ok || !c.ok && e != api.ErrLong {
			t.Errorf("%v: %v", c, e)
		}
	}
}

// named returns the expression of a program that becomes x, if all variables have this name.
func named(x api.KExpr, name string) api.Expr {
	e := api.Expr{Kind: api.ExName, S: name}
	for _, y := range x.L {
		e.L = append(e.L, named(y, name))
	}
	switch x.Kind {
	case api.KxMonadic:
		e.Kind, e.Oper, e.S = api.ExMonadic, x.Oper, ""
	case api.KxDyadic:
		e.Kind, e.Oper, e.S = api.ExDyadic, x.Oper, ""
	}
	return e
}

// renamed returns an expression with the first name in it replaced.
func renamed(e api.Expr, name string) api.Expr {
	if e.Kind == api.ExName {
		e.S = name
		return e
	}
	e.L = slices.Clone(e.L)
	e.L[0] = renamed(e.L[0], name)
	return e
}
