package typing_test

import (
	"slices"
	"strconv"
	"strings"
	"testing"

	"transputer/api"
	"transputer/typing"
)

// environments are some with which everything invalid must be refused.
func environments() [][]api.Spec {
	return [][]api.Spec{nil, {}, env("INT x, y, z:/CHAN OF INT c:"), {{}, named(255, api.Type{}, "x")}, typing.Host(), operandsEnv()}
}

func deepExpr(n int) api.Expr {
	x := value("x")
	for range n - 1 {
		x = api.Expr{Kind: api.ExMonadic, Oper: api.OperNeg, L: []api.Expr{x}}
	}
	return x
}

// wideExpr returns an expression with 2 to the power of n parts, without those that have parts.
func wideExpr(n int, leaf api.Expr) api.Expr {
	for range n {
		leaf = api.Expr{Kind: api.ExDyadic, Oper: api.OperAdd, L: []api.Expr{leaf, leaf}}
	}
	return leaf
}

// P13.1, R2: ErrArg is ahead of all other errors.
func TestInvalidExpressions(t *testing.T) {
	x, number := value("x"), value("1")
	around := make([]api.Expr, 1)
	around[0] = api.Expr{Kind: api.ExMonadic, Oper: api.OperNeg, L: around}
	for _, wrong := range []api.Expr{
		{}, {Kind: api.ExSize + 1, S: "x"}, {Kind: 255}, {Kind: api.ExName}, {Kind: api.ExName, S: "1x"}, {Kind: api.ExName, S: "SEQ"}, {Kind: api.ExName, S: "x "}, {Kind: api.ExName, S: strings.Repeat("x", 33)},
		{Kind: api.ExName, S: "x", N: 1}, {Kind: api.ExName, S: "x", L: []api.Expr{x}}, {Kind: api.ExName, S: "x", To: api.TyInt}, {Kind: api.ExNumber, N: 1, S: "x"}, {Kind: api.ExNumber, N: 1, To: api.TyInt}, {Kind: api.ExByte, N: 256},
		{Kind: api.ExByte, N: -1}, {Kind: api.ExBool, N: 2}, {Kind: api.ExIndex, S: "x"}, {Kind: api.ExIndex, L: []api.Expr{number}}, {Kind: api.ExIndex, S: "x", L: []api.Expr{number, number}}, {Kind: api.ExIndex, S: "u", L: []api.Expr{{}}},
		{Kind: api.ExMonadic, Oper: api.OperAdd, L: []api.Expr{number}}, {Kind: api.ExMonadic, Oper: api.OperNeg}, {Kind: api.ExMonadic, L: []api.Expr{number}}, {Kind: api.ExMonadic, Oper: api.OperNot + 1, L: []api.Expr{number}},
		{Kind: api.ExDyadic, Oper: api.OperNeg, L: []api.Expr{number, number}}, {Kind: api.ExDyadic, Oper: api.OperAdd, L: []api.Expr{number}}, {Kind: api.ExDyadic, Oper: api.OperAdd, L: []api.Expr{number, number, number}},
		{Kind: api.ExDyadic, Oper: api.OperAdd, L: []api.Expr{value("u"), {}}}, {Kind: api.ExDyadic, Oper: api.OperAdd, L: []api.Expr{number, {Kind: api.ExByte, N: 1000}}}, {Kind: api.ExConvert, To: api.TyChan, L: []api.Expr{number}}, {Kind: api.ExConvert, L: []api.Expr{number}},
		{Kind: api.ExConvert, To: api.TyInt}, {Kind: api.ExConvert, To: api.TyTimer, L: []api.Expr{number}}, {Kind: api.ExSize}, {Kind: api.ExSize, S: "x", L: []api.Expr{x}}, deepExpr(33), deepExpr(1 << 20), wideExpr(8, x), wideExpr(20, number), around[0],
	} {
		for _, l := range environments() {
			checkNoType(t, wrong, l, api.ErrArg)
			checkProcess(t, api.Process{Kind: api.PrOutput, Chan: value("u"), Exprs: []api.Expr{wrong}}, l, api.ErrArg)
		}
	}
	l := env("INT x:")
	checkType(t, deepExpr(32), l, typ("INT"))
	checkType(t, wideExpr(7, x), l, typ("INT"))
	checkNoType(t, deepExpr(32), nil, api.ErrScope)
}

// P13.2, R2: ErrArg is ahead of all other errors, wherever in the process it comes from.
func TestInvalidProcesses(t *testing.T) {
	skip := api.Process{Kind: api.PrSkip}
	for what, change := range map[string]func(p *api.Process){
		"a kind that there is not":        func(p *api.Process) { p.Kind = api.PrSpec + 1 },
		"no kind":                         func(p *api.Process) { p.L[2].Kind = api.NoProc },
		"a field of another kind":         func(p *api.Process) { p.L[0].Name = "x" },
		"a name that is none":             func(p *api.Process) { p.L[1].Spec.Names[0] = "1z" },
		"no names":                        func(p *api.Process) { p.L[1].Spec.Names = nil },
		"a type that there is not":        func(p *api.Process) { p.L[1].Spec.Type.Proto = "q" },
		"a dimension":                     func(p *api.Process) { p.L[1].Spec.Type.Dim = 65 },
		"an expression that is not valid": func(p *api.Process) { p.L[2].Exprs[0].L = []api.Expr{{}} },
		"a target that is no element":     func(p *api.Process) { p.L[0].Targets[0] = value("1") },
		"no expression to be sent":        func(p *api.Process) { p.L[2].Exprs = nil },
		"ten expressions to be sent":      func(p *api.Process) { p.L[2].Exprs = slices.Repeat(p.L[2].Exprs, 10) },
		"no channel":                      func(p *api.Process) { p.L[2].Chan = api.Expr{} },
		"a replicator of two":             func(p *api.Process) { p.Rep = proc("SEQ i = x FOR y/.SKIP").Rep },
		"a replicator without a name":     func(p *api.Process) { p.Rep.Base = value("x") },
		"a guard":                         func(p *api.Process) { p.Guards = []api.Guard{{Kind: api.GuElse, Body: []api.Process{skip}}} },
		"a guard without a process":       func(p *api.Process) { p.L[2] = proc("IF/.x/..SKIP"); p.L[2].Guards[0].Body = nil },
		"a guard of another kind":         func(p *api.Process) { p.L[2] = proc("IF/.x/..SKIP"); p.L[2].Guards[0].Kind = api.GuSkip },
		"no scope":                        func(p *api.Process) { p.L[1].L = nil },
		"a PROC without a body":           func(p *api.Process) { p.L[1].Spec = api.Spec{Kind: api.SpProc, Names: []string{"z"}} },
		"a protocol that there is not":    func(p *api.Process) { p.L[1].Spec = api.Spec{Kind: api.SpProto, Names: []string{"z"}} },
		"a value that is an array":        func(p *api.Process) { p.L[1] = proc("VAL INT z IS x:/SKIP"); p.L[1].Spec.Type.Dim = 3 },
		"a formal that is an array": func(p *api.Process) {
			p.L[1] = proc("PROC z(VAL INT x)/.SKIP/:/SKIP")
			p.L[1].Spec.Formals[0].Type.Dim = 3
		},
		"an abbreviation of a value": func(p *api.Process) { p.L[1] = proc("INT z IS x:/SKIP"); p.L[1].Spec.E = value("1") },
		"a processor":                func(p *api.Process) { p.Procs = []int{0} },
		"a PLACED PAR inside":        func(p *api.Process) { p.L[1].L[0] = proc("PLACED PAR/.PROCESSOR 0/..SKIP") },
	} {
		p := proc("SEQ/.x := y/.INT z, z:/.SKIP/.c ! x")
		change(&p)
		for _, l := range environments() {
			if e := typing.Check(p, l); e != api.ErrArg {
				t.Errorf("%s: %d with %s", what, e, briefly(l))
			}
		}
	}
	checkAll(t, nil, api.ErrScope, "SEQ/.x := y/.INT z, z:/.SKIP/.c ! x")
	checkProcess(t, api.Process{}, nil, api.ErrArg)
}

const million = 1 << 20

// P13.1, P13.2, P0.1, R1: trees that are too large or too deep, or that contain themselves.
func TestLargeTrees(t *testing.T) {
	skip := api.Process{Kind: api.PrSkip}
	deep, ints := skip, env("INT x:")[0]
	for i := range million {
		deep = api.Process{Kind: api.PrSeq, L: []api.Process{deep}}
		if i%2 == 0 {
			deep = api.Process{Kind: api.PrSpec, Spec: ints, L: deep.L}
		}
	}
	row := []api.Process{{Kind: api.PrSeq, L: slices.Repeat([]api.Process{skip}, 1024)}}
	around := make([]api.Process, 1)
	around[0] = api.Process{Kind: api.PrSeq, L: around}
	for what, p := range map[string]api.Process{
		"a million processes one inside the other": deep,
		"a million processes side by side":         {Kind: api.PrPar, L: slices.Repeat(row, 1024)},
		"a million guards":                         {Kind: api.PrIf, Guards: slices.Repeat(proc("IF/.x/..SKIP").Guards, million)},
		"a million targets":                        {Kind: api.PrAssign, Targets: slices.Repeat([]api.Expr{value("x")}, million), Exprs: []api.Expr{value("x")}},
		"a million names":                          {Kind: api.PrSpec, Spec: named(api.SpDeclare, typ("INT"), make([]string, million)...), L: []api.Process{skip}},
		"a million formals":                        {Kind: api.PrSpec, Spec: api.Spec{Kind: api.SpProc, Names: []string{"x"}, Formals: make([]api.Formal, million), Body: []api.Process{skip}}, L: []api.Process{skip}},
		"an expression that is too deep":           {Kind: api.PrWhile, Exprs: []api.Expr{deepExpr(million)}, L: []api.Process{skip}},
		"a process in itself":                      around[0],
	} {
		for _, l := range environments() {
			if e := typing.Check(p, l); e != api.ErrArg {
				t.Errorf("%s: %d", what, e)
			}
		}
	}
}

// largest returns a process of as many processes as there may be, with four million expressions in it, and p at its end.
func largest(p api.Process) api.Process {
	x := wideExpr(7, value("x")) // 255 expressions
	many := api.Process{Kind: api.PrAssign, Targets: slices.Repeat([]api.Expr{value("x")}, 8), Exprs: slices.Repeat([]api.Expr{x}, 8)}
	all := api.Process{Kind: api.PrSeq, L: append(slices.Repeat([]api.Process{many}, api.MaxTree-2), p)}
	return all
}

// P13.2, R1: valid processes of the largest size: their last part counts too.
func TestLargestProcesses(t *testing.T) {
	l := env("INT x:/BYTE b:")
	checkProcess(t, largest(proc("x := x")), l, api.OK)
	checkProcess(t, largest(proc("x := b")), l, api.ErrTyping)
	checkProcess(t, largest(proc("x := u")), l, api.ErrScope)
	p := proc("x := 1")
	for i := range api.MaxTree - 1 {
		s := env("INT x" + strconv.Itoa(i) + ", x, y:")[0]
		p = api.Process{Kind: api.PrSpec, Spec: s, L: []api.Process{p}}
	}
	checkProcess(t, p, nil, api.OK)
	p.Spec.Type = typ("BYTE")
	checkProcess(t, p, nil, api.OK)
	for q := &p; ; q = &q.L[0] {
		if q.L[0].Kind != api.PrSpec {
			q.Spec.Type = typ("BYTE")
			break
		}
	}
	checkProcess(t, p, nil, api.ErrTyping)
}

// manySpecs returns so many specifications, some of which have the same names.
func manySpecs(n int) []api.Spec {
	l := slices.Repeat([]api.Spec{named(api.NoSpec, typ("BOOL"))}, n)
	for i := range l {
		l[i].Kind, l[i].Names = kinds[i%len(kinds)], []string{"n" + strconv.Itoa(i), "m" + strconv.Itoa(i%5)}
	}
	return l
}

// P13.1, P13.2, R1: environments of a million specifications, and ones with a million names in one of them.
func TestManySpecifications(t *testing.T) {
	many := manySpecs(million)
	l := append(env("PROTOCOL m0 IS INT:/INT x, y:/CHAN OF m0 c:/PROC q(CHAN OF m0 a)/.SKIP/:"), many...)
	checkOf(t, "x + y", l, "INT")
	checkOf(t, "x + n1", l, "typing")
	checkOf(t, "n1 = n"+strconv.Itoa(million-len(kinds)+2), l, "BOOL")
	checkOf(t, "u", l, "scope")
	checkOf(t, "b", append(l, env("BYTE b:")...), "BYTE")
	checkAll(t, l, api.OK, "PAR/.c ! x/.c ? y/.q(c)")
	checkAll(t, l, api.ErrScope, "PAR/.c ! x/.c ? y/.q(u)")
	checkAll(t, l, api.ErrTyping, "m0()", "c ! n1")
	checkProcess(t, largest(proc("c ! x")), l, api.OK)
	checkProcess(t, api.Process{Kind: api.PrSeq, L: slices.Repeat([]api.Process{proc("q(c)")}, 500)}, l[:million/16], api.OK)

	var names []string
	for i := range million {
		names = append(names, "n"+strconv.Itoa(i))
	}
	l = append(env("INT x:"), named(api.SpVal, typ("INT"), names...), named(api.SpVal, typ("INT"), slices.Repeat([]string{"y"}, million)...))
	checkOf(t, "x + (n0 + (y + n"+strconv.Itoa(million-1)+"))", l, "INT")
	checkOf(t, "n"+strconv.Itoa(million), l, "scope")
	checkAll(t, l, api.OK, "SEQ/.x := y/.x := n77")
	checkAll(t, l, api.ErrTyping, "y := x")
}
