package kernel_test

import (
	"fmt"
	"strings"
	"testing"

	"transputer/api"
	"transputer/kernel"
)

// wrong are processes with errors of the layers below.
var wrong = []struct {
	s string
	e api.Errno
}{
	{"y := 1", api.ErrScope}, {"INT x:|x := y", api.ErrScope}, {"p()", api.ErrScope}, {"CHAN OF q c:|SKIP", api.ErrScope}, {"PROC p()|.p()|:|SKIP", api.ErrScope}, {"from.hosts ? x", api.ErrScope},
	{"INT x, x:|SKIP", api.ErrTwice}, {"PROC p(INT x, VAL BYTE x)|.SKIP|:|SKIP", api.ErrTwice},
	{"INT x:|x := TRUE", api.ErrTyping}, {"to.host ! 'a'", api.ErrTyping}, {"PROC p(INT x)|.SKIP|:|p()", api.ErrTyping}, {"BOOL b:|CASE b|.TRUE|..SKIP", api.ErrTyping}, {"CASE 1|.ELSE|..SKIP|.ELSE|..SKIP", api.ErrTyping}, {"VAL INT x IS 1:|x := 2", api.ErrTyping}, {"[4]INT v:|v := 1", api.ErrTyping}, {"to.host ! 1; 2", api.ErrTyping}, {"WHILE 1|.SKIP", api.ErrTyping},
	{"INT x:|INT y IS x:|x := 1", api.ErrAlias}, {"INT x:|x, x := 1, 2", api.ErrAlias}, {"INT x:|PROC p(INT y)|.x := y|:|p(x)", api.ErrAlias}, {"INT x:|VAL INT y IS x:|x := 1", api.ErrAlias},
}

// hopeless are processes that cannot be elaborated.
var hopeless = []struct {
	s string
	e api.Errno
}{
	{"INT n:|PAR i = 0 FOR n|.SKIP", api.ErrConst}, {"INT n:|IF i = n FOR 1|.TRUE|..SKIP", api.ErrConst}, {"INT k:|CASE 1|.k|..SKIP", api.ErrConst}, {"ALT i = 1 / 0 FOR 1|.TRUE & SKIP|..SKIP", api.ErrConst},
	{"PAR i = 0 FOR 17|.SKIP", api.ErrKernel}, {"CASE 1|.1, 1|..SKIP", api.ErrKernel}, {"[2]CHAN OF INT c:|c[2] ! 1", api.ErrKernel}, {"PRI PAR|.PRI PAR|..SKIP|..SKIP|.SKIP", api.ErrKernel}, {"[2]CHAN OF INT c:|INT i:|c[i] ? i", api.ErrKernel},
	{"SEQ i = 0 FOR 16|.SEQ j = 0 FOR 16|..SEQ k = 0 FOR 16|...SKIP", api.ErrLong},
}

// P16.2: the errors of the layers below, and those of the elaboration behind them, whatever comes first in the program.
func TestErrorOrder(t *testing.T) {
	layer := map[api.Errno]int{api.ErrScope: 12, api.ErrTwice: 12, api.ErrTyping: 13, api.ErrAlias: 15}
	both := []string{"SEQ|.@|.%", "PAR|.@|.SEQ|..%", "IF|.TRUE|..@|.FALSE|..%", "CASE 1|.2|..@|.ELSE|..%", "PROC p()|.SEQ|..@|..%|:|p()", "CASE 1|.ELSE|..@|.3|..%", "ALT|.TRUE & SKIP|..@|.TRUE & SKIP|..%", "WHILE TRUE|.SEQ|..@|..%", "PRI PAR|.@|.%", "SEQ i = 0 FOR 2|.SEQ|..@|..%"}
	place := func(s, first, second string) string { return insideAt(insideAt(s, "@", first), "%", second) }
	for _, s := range both {
		for _, a := range wrong {
			checkErrors(t, a.e, place(s, a.s, "SKIP"), place(s, "SKIP", a.s))
			for _, b := range wrong {
				want := a.e
				if layer[b.e] < layer[a.e] {
					want = b.e
				}
				checkErrors(t, want, place(s, a.s, b.s))
			}
			for _, b := range hopeless {
				checkErrors(t, a.e, place(s, a.s, b.s), place(s, b.s, a.s))
			}
		}
		for _, a := range hopeless {
			checkErrors(t, a.e, place(s, a.s, "SKIP"), place(s, "SKIP", a.s))
			for _, b := range hopeless {
				checkErrors(t, a.e, place(s, a.s, b.s))
			}
			// The kernel is looked at when all of it has been elaborated.
			checkErrors(t, a.e, place(s, "INT x:|to.host ? x", a.s), place(s, "[64]CHAN OF INT c:|SKIP", a.s))
		}
		checkErrors(t, api.ErrLong, place(s, "INT x:|to.host ? x", "SKIP"), place(s, "SKIP", "[63]CHAN OF INT c:|SKIP"))
	}
}

// P16.2: the order of the errors in one process.
func TestOrderInside(t *testing.T) {
	const around = "PROTOCOL q|.CASE|..t|..u|:|INT n, x:|[2]CHAN OF INT c:|[2]CHAN OF q d:|PROC f(VAL INT v, CHAN OF INT g, VAL INT w)|.CASE v|..n|...SKIP|:|PROC h(CHAN OF INT g, CHAN OF INT e)|.SKIP|:|"
	const noConst, bad = "PAR i = 0 FOR n|@SKIP", "PAR i = 0 FOR 17|@SKIP"
	inner := func(s, p string, depth int) string {
		dots := strings.Repeat(".", depth)
		return around + strings.Replace(s, "@", dots+strings.ReplaceAll(p, "@", dots+"."), 1)
	}
	for _, c := range []struct {
		s, p  string
		depth int
		want  api.Errno
	}{
		{"ALT|.c[n] ? x|@", noConst, 2, api.ErrKernel}, {"ALT|.TRUE & SKIP|@|.c[n] ? x|..SKIP", noConst, 2, api.ErrConst}, {"PRI ALT|.c[0] ? x|@|.c[2] ? x|..SKIP", noConst, 2, api.ErrConst}, {"ALT|.c[2] ? x|..SKIP|.c[1] ? x|@", noConst, 2, api.ErrKernel},
		{"d[n] ? CASE|.t|@", noConst, 2, api.ErrKernel}, {"d[0] ? CASE|.t|..SKIP|.u|@", noConst, 2, api.ErrConst}, {"d[2] ? CASE|.t|..SKIP|.u|@", noConst, 2, api.ErrKernel},
		{"CASE n|.1, n|@", bad, 2, api.ErrConst}, {"CASE n|.1, 1|@", noConst, 2, api.ErrKernel}, {"CASE n|.1|@|.n|..SKIP", bad, 2, api.ErrKernel}, {"CASE n|.1|@|.1|..SKIP", noConst, 2, api.ErrConst}, {"CASE n|.1, 1, n|@", noConst, 2, api.ErrKernel}, {"CASE n|.n, 1, 1|@", noConst, 2, api.ErrConst}, {"CASE n|.1, n, 1|@", bad, 2, api.ErrConst},
		{"CASE n|.ELSE|@|.n|..SKIP", bad, 2, api.ErrKernel}, {"CASE n|.ELSE|@|.1, 1|..SKIP", noConst, 2, api.ErrConst}, {"CASE n|.1, 1|..SKIP|.ELSE|@", noConst, 2, api.ErrKernel},
		{"PAR i = n FOR 17|@", bad, 1, api.ErrConst}, {"PAR i = 0 FOR 17|@", noConst, 1, api.ErrKernel}, {"PAR i = 0 FOR n|@", bad, 1, api.ErrConst}, {"SEQ i = n FOR 17|@", bad, 1, api.ErrKernel},
		{"SEQ|.f(n, c[n], n)|@", noConst, 1, api.ErrKernel}, {"SEQ|.f(n, c[1], n)|@", bad, 1, api.ErrConst}, {"SEQ|.h(c[0], c[2])|@", noConst, 1, api.ErrAlias}, {"SEQ|.h(c[5], from.host)|@", noConst, 1, api.ErrKernel}, {"SEQ|.f(1, c[1], n)|@", bad, 1, api.ErrConst},
	} {
		checkErrors(t, c.want, inner(c.s, c.p, c.depth))
	}
}

// P16.2: PLACED PAR below specifications that become a process and that do not.
func TestPlaced(t *testing.T) {
	const placed = "PLACED PAR|.PROCESSOR 2|..SKIP|.PROCESSOR 0|..SEQ|...STOP|...STOP"
	const kernel = "c0 in|c1 out|procs 2 0|par|.skip|.seq|..stop|..stop"
	checkWhole(t, [][2]string{
		{placed, kernel}, {"VAL INT k IS 1:|" + placed, kernel}, {"TIMER t:|PROTOCOL p IS INT:|PROC f()|.INT x:|.SKIP|:|" + placed, kernel}, {"CHAN OF INT c:|[2]CHAN OF BYTE d:|" + placed, "c0 in|c1 out|c2|c3|c4|procs 2 0|par|.skip|.seq|..stop|..stop"},
		{"PLACED PAR|.PROCESSOR 7|..STOP", "c0 in|c1 out|procs 7|par|.stop"}, {"VAL INT k IS 3:|PLACED PAR|.PROCESSOR 0|..INT x:|..x := k|.PROCESSOR 1|..PAR|...SKIP|...INT y:|...y := 1", "v0 INT|v1 INT|c0 in|c1 out|procs 0 1|par|.seq|..clear v0|..v0 := 3|.par|..skip|..seq|...clear v1|...v1 := 1"},
		{"PLACED PAR" + unrolled("|.PROCESSOR @|..to.host ! @", 0, 8), "c0 in|c1 out|procs 0 1 2 3 4 5 6 7|par" + unrolled("|.c1 ! INT @", 0, 8)},
	})
	for _, s := range []string{"INT x:|@", "[2]BOOL x:|@", "INT x:|INT y IS x:|@", "VAL INT k IS 1:|BYTE b:|CHAN OF INT c:|@", "VAL INT k IS 1 / 0:|@", "INT x:|VAL INT y IS x:|@", "[2]INT v:|INT x IS v[0]:|@"} {
		checkErrors(t, api.ErrKernel, inside(s, placed), inside(s, "PLACED PAR|.PROCESSOR 0|..PAR i = 1 / 0 FOR 1|...SKIP"))
	}
	for _, s := range []string{"0 0", "7 7", "1 2 1", "0 1 2 3 4 5 6 0", "3 2 1 0 3"} {
		program := "PLACED PAR"
		for n := range strings.FieldsSeq(s) {
			program += "|.PROCESSOR " + n + "|..PAR i = 1 / 0 FOR 1|...SKIP"
		}
		checkErrors(t, api.ErrKernel, program, "CHAN OF INT c:|"+program)
	}
	checkErrors(t, api.ErrConst, "PLACED PAR|.PROCESSOR 0|..PAR i = 1 / 0 FOR 1|...SKIP")
	checkErrors(t, api.ErrKernel, "PLACED PAR|.PROCESSOR 0|..PAR i = 0 FOR 17|...SKIP|.PROCESSOR 1|..PAR i = 1 / 0 FOR 1|...SKIP")
}

// P16.2, R2: ErrArg is ahead of everything else.
func TestInvalid(t *testing.T) {
	const s = "INT x, x:|SEQ|.x := y|.PAR i = 0 FOR 17|..SKIP|.to.host ! 1"
	for what, change := range map[string]func(p *api.Process){
		"no kind":                         func(p *api.Process) { p.L[0].L[0].Kind = api.NoProc },
		"a kind that there is not":        func(p *api.Process) { p.Kind = api.PrSpec + 1 },
		"a field of another kind":         func(p *api.Process) { p.L[0].Name = "x" },
		"a name that is none":             func(p *api.Process) { p.Spec.Names[1] = "1z" },
		"no scope":                        func(p *api.Process) { p.L = nil },
		"no part of a replicated PAR":     func(p *api.Process) { p.L[0].L[1].L = nil },
		"an expression that is not valid": func(p *api.Process) { p.L[0].L[2].Exprs[0].L = []api.Expr{{}} },
		"a PLACED PAR inside":             func(p *api.Process) { p.L[0].L[2] = proc("PLACED PAR|.PROCESSOR 0|..SKIP") },
		"two processes of a WHILE":        func(p *api.Process) { p.L[0].L[1] = api.Process{Kind: api.PrWhile, L: p.L[0].L[:2]} },
	} {
		p := proc(s)
		change(&p)
		checkError(t, what, p, api.ErrArg)
	}
	checkError(t, "nothing", api.Process{}, api.ErrArg)
	checkError(t, s, proc(s), api.ErrTwice)
}

// P16.2: nothing is returned with an error, and a kernel is not valid for no other reason than ErrLong.
func TestNoKernel(t *testing.T) {
	for _, c := range append(wrong, hopeless...) {
		if k, e := kernel.Make(proc(c.s)); e != c.e || len(k.Vars) > 0 || len(k.Chans) > 0 || len(k.Procs) > 0 || fmt.Sprint(k.Root) != fmt.Sprint(api.KProc{}) {
			t.Errorf("Make(%s) = %v, %v", c.s, k, e)
		}
	}
}
