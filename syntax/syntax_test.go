package syntax_test

import (
	"fmt"
	"slices"
	"strings"

	"transputer/api"
	"transputer/expr"
	"transputer/lex"
)

// reserved are the words that layer 8 lists.
var reserved = strings.Fields(`AFTER ALT AND BOOL BYTE CASE CHAN ELSE FALSE FOR IF INT IS MINUS NOT OF OR PAR PLACED PLUS PRI PROC PROCESSOR PROTOCOL
	SEQ SIZE SKIP STOP TIMER TIMES TRUE VAL WHILE`)

// names are names, at the edges of what is one, and noNames are none.
var (
	names   = []string{"a", "Z", "from.host", "skip", "SKIP.", "INT8", strings.Repeat("n", 32)}
	noNames = append([]string{"", " ", "a ", ".a", "1", "1a", "a_b", "é", "a\x00", "[", strings.Repeat("n", 33), strings.Repeat("n", 1<<20)}, reserved...)
)

// Processes that have no fields.
var (
	skip = api.Process{Kind: api.PrSkip}
	stop = api.Process{Kind: api.PrStop}
)

// Types, of which the first three are primitive.
var (
	integer   = api.Type{Kind: api.TyInt}
	character = api.Type{Kind: api.TyByte}
	truthful  = api.Type{Kind: api.TyBool}
	array     = api.Type{Kind: api.TyBool, Dim: 64}
	channel   = api.Type{Kind: api.TyChan, Item: api.TyByte}
	named     = api.Type{Kind: api.TyChan, Proto: "p"}
	channels  = api.Type{Kind: api.TyChan, Dim: 3, Proto: "p"}
	timer     = api.Type{Kind: api.TyTimer}
)

func name(s string) api.Expr { return api.Expr{Kind: api.ExName, S: s} }

func number(n int32) api.Expr { return api.Expr{Kind: api.ExNumber, N: n} }

func char(n int32) api.Expr { return api.Expr{Kind: api.ExByte, N: n} }

func truth(n int32) api.Expr { return api.Expr{Kind: api.ExBool, N: n} }

func at(s string, x api.Expr) api.Expr {
	return api.Expr{Kind: api.ExIndex, S: s, L: []api.Expr{x}}
}

func one(o api.Operator, x api.Expr) api.Expr {
	return api.Expr{Kind: api.ExMonadic, Oper: o, L: []api.Expr{x}}
}

func two(a api.Expr, o api.Operator, b api.Expr) api.Expr {
	return api.Expr{Kind: api.ExDyadic, Oper: o, L: []api.Expr{a, b}}
}

func convert(to api.TypeKind, x api.Expr) api.Expr {
	return api.Expr{Kind: api.ExConvert, To: to, L: []api.Expr{x}}
}

func size(s string) api.Expr { return api.Expr{Kind: api.ExSize, S: s} }

func exprs(l ...api.Expr) []api.Expr { return l }

func procs(l ...api.Process) []api.Process { return l }

func seq(l ...api.Process) api.Process { return api.Process{Kind: api.PrSeq, L: l} }

func placed(l ...api.Process) api.Process {
	return api.Process{Kind: api.PrPlaced, L: l, Procs: make([]int, len(l))}
}

func spec(s api.Spec, p api.Process) api.Process {
	return api.Process{Kind: api.PrSpec, Spec: s, L: procs(p)}
}

func declare(p api.Process) api.Process {
	return spec(api.Spec{Kind: api.SpDeclare, Type: integer, Names: []string{"x"}}, p)
}

func procedure(body, p api.Process) api.Process {
	return spec(api.Spec{Kind: api.SpProc, Names: []string{"f"}, Body: procs(body)}, p)
}

func while(p api.Process) api.Process {
	return api.Process{Kind: api.PrWhile, Exprs: exprs(truth(1)), L: procs(p)}
}

// guarded returns g with a process behind it.
func guarded(g api.Guard, p api.Process) api.Guard {
	g.Body = procs(p)
	return g
}

func guards(l ...api.Guard) []api.Guard { return l }

func ifs(p api.Process) api.Process {
	return api.Process{Kind: api.PrIf, Guards: guards(guarded(api.Guard{Kind: api.GuIf, Cond: truth(1)}, p))}
}

// random returns numbers in a fixed order without a pattern.
func random(seed uint32) func(n int) int {
	return func(n int) int {
		seed = seed*1664525 + 1013904223
		return int(seed>>9) % n
	}
}

// brief returns what a message shows of a value.
func brief(x any) string {
	s := fmt.Sprintf("%q", fmt.Sprint(x))
	return s[:min(600, len(s))]
}

// rows returns rows of a text in which they are separated by / and their depth is the number of dots in front.
func rows(s string) (l []api.Row) {
	if s == "" {
		return nil
	}
	for i, x := range strings.Split(s, "/") {
		text := strings.TrimLeft(x, ".")
		l = append(l, api.Row{No: i + 1, Depth: len(x) - len(text), Text: text})
	}
	return l
}

// shown returns rows as such a text.
func shown(l []api.Row) string {
	texts := make([]string, len(l))
	for i, x := range l {
		texts[i] = strings.Repeat(".", max(0, x.Depth)) + x.Text
	}
	return strings.Join(texts, "/")
}

// many returns n times s.
func many(s string, n int, between string) string {
	return strings.Join(slices.Repeat([]string{s}, n), between)
}

// text returns the text of an expression that is valid, of 256 bytes at most.
func text(x api.Expr) string {
	l, _ := expr.Tokens(x)
	s, _ := lex.Text(l)
	return s
}

// filled returns an expression of n expressions.
func filled(n int) api.Expr {
	switch n {
	case 1:
		return name("a")
	case 2:
		return one(api.OperNeg, name("b"))
	}
	return two(filled((n-1)/2), api.OperAdd, filled(n-1-(n-1)/2))
}

// deep returns an expression that is n deep.
func deep(n int) api.Expr {
	x := name("a")
	for range n - 1 {
		x = at("v", x)
	}
	return x
}

// noExprs are expressions that are not valid.
func noExprs() []api.Expr {
	return []api.Expr{{}, {S: "x"}, {L: exprs(name("x"))}, {Kind: 10, S: "x"}, {Kind: 255}, name(""), name("SKIP"), {Kind: api.ExName, S: "x", N: 1},
		{Kind: api.ExIndex, S: "v"}, at("IF", number(1)), at("v", api.Expr{}), char(256), truth(2), one(api.OperAdd, number(1)), filled(257), deep(33)}
}

// elements and values are expressions, of which the values are no elements.
func elements() []api.Expr {
	return []api.Expr{name("x"), name(strings.Repeat("n", 32)), at("v", number(2)), at("v", at("w", name("i"))), at("v", filled(255)), deep(32)}
}

func values() []api.Expr {
	return []api.Expr{number(0), number(-1), char('='), truth(0), size("v"), one(api.OperNot, name("x")), two(name("x"), api.OperAfter, number(1)), convert(api.TyByte, name("x")), filled(256)}
}

// sample is a process with its rows.
type sample struct {
	s string
	p api.Process
}

// simple are samples of processes with one row.
func simple() []sample {
	x, y, c, n := name("x"), name("y"), name("c"), name("n")
	return []sample{
		{"SKIP", skip},
		{"STOP", stop},
		{"x := 1", api.Process{Kind: api.PrAssign, Targets: exprs(x), Exprs: exprs(number(1))}},
		{"x, y := 1, v[i]", api.Process{Kind: api.PrAssign, Targets: exprs(x, y), Exprs: exprs(number(1), at("v", name("i")))}},
		{"v[x + 1], x := y", api.Process{Kind: api.PrAssign, Targets: exprs(at("v", two(x, api.OperAdd, number(1))), x), Exprs: exprs(y)}},
		{many("x", 8, ", ") + " := " + many("SIZE v", 8, ", "), api.Process{Kind: api.PrAssign, Targets: slices.Repeat(exprs(x), 8), Exprs: slices.Repeat(exprs(size("v")), 8)}},
		{"c ? x", api.Process{Kind: api.PrInput, Chan: c, Targets: exprs(x)}},
		{"c[1] ? x; v[2]", api.Process{Kind: api.PrInput, Chan: at("c", number(1)), Targets: exprs(x, at("v", number(2)))}},
		{"c ? " + many("v[x]", 8, "; "), api.Process{Kind: api.PrInput, Chan: c, Targets: slices.Repeat(exprs(at("v", x)), 8)}},
		{"c ! x", api.Process{Kind: api.PrOutput, Chan: c, Exprs: exprs(x)}},
		{"c[n] ! x + 1; y", api.Process{Kind: api.PrOutput, Chan: at("c", n), Exprs: exprs(two(x, api.OperAdd, number(1)), y)}},
		{"c ! put; " + many("'='", 8, "; "), api.Process{Kind: api.PrOutput, Chan: c, Exprs: append(exprs(name("put")), slices.Repeat(exprs(char('=')), 8)...)}},
		{"t ? AFTER x PLUS 5", api.Process{Kind: api.PrAfter, Chan: name("t"), Exprs: exprs(two(x, api.OperPlus, number(5)))}},
		{"t[0] ? AFTER (x AFTER y) AND TRUE", api.Process{Kind: api.PrAfter, Chan: at("t", number(0)), Exprs: exprs(two(two(x, api.OperAfter, y), api.OperAnd, truth(1)))}},
		{"f()", api.Process{Kind: api.PrCall, Name: "f"}},
		{"f(x)", api.Process{Kind: api.PrCall, Name: "f", Exprs: exprs(x)}},
		{"from.host(x, y + 1)", api.Process{Kind: api.PrCall, Name: "from.host", Exprs: exprs(x, two(y, api.OperAdd, number(1)))}},
		{"f(" + many("INT x", 8, ", ") + ")", api.Process{Kind: api.PrCall, Name: "f", Exprs: slices.Repeat(exprs(convert(api.TyInt, x)), 8)}},
	}
}

// replicated are samples of processes that may have a replicator.
func replicated() (l []sample) {
	x, c, n := name("x"), name("c"), name("n")
	for _, k := range []struct {
		words string
		kind  api.ProcKind
	}{{"SEQ", api.PrSeq}, {"PAR", api.PrPar}} {
		l = append(l,
			sample{k.words, api.Process{Kind: k.kind}},
			sample{k.words + "/.SKIP", api.Process{Kind: k.kind, L: procs(skip)}},
			sample{k.words + "/.SKIP/.PAR/..STOP/..SKIP/.SEQ/.STOP", api.Process{Kind: k.kind, L: procs(skip, api.Process{Kind: api.PrPar, L: procs(stop, skip)}, seq(), stop)}},
			sample{k.words + " i = 0 FOR n/.SKIP", api.Process{Kind: k.kind, Rep: api.Rep{Name: "i", Base: number(0), Count: n}, L: procs(skip)}},
			sample{k.words + " i = x = n FOR SIZE v/.SEQ/..STOP/..SKIP", api.Process{Kind: k.kind, Rep: api.Rep{Name: "i", Base: two(x, api.OperEq, n), Count: size("v")}, L: procs(seq(stop, skip))}})
	}
	input := guarded(api.Guard{Kind: api.GuInput, Chan: at("c", name("i")), Targets: exprs(x)}, skip)
	for _, k := range []struct {
		words string
		kind  api.ProcKind
	}{{"ALT", api.PrAlt}, {"PRI ALT", api.PrPriAlt}} {
		l = append(l,
			sample{k.words, api.Process{Kind: k.kind}},
			sample{k.words + many("/.c[i] ? x/..SKIP", 16, ""), api.Process{Kind: k.kind, Guards: slices.Repeat(guards(input), 16)}},
			sample{k.words + " i = 0 FOR n/.c[i] ? x/..SKIP", api.Process{Kind: k.kind, Rep: api.Rep{Name: "i", Base: number(0), Count: n}, Guards: guards(input)}},
			sample{k.words + "/.x > 0 & c ? x; x/..SKIP/.TRUE & SKIP/..STOP/.t[1] ? AFTER n/..SKIP/.x & t ? AFTER x PLUS n/..SEQ/...STOP", api.Process{Kind: k.kind, Guards: guards(
				guarded(api.Guard{Kind: api.GuInput, Cond: two(x, api.OperGt, number(0)), Chan: c, Targets: exprs(x, x)}, skip),
				guarded(api.Guard{Kind: api.GuSkip, Cond: truth(1)}, stop),
				guarded(api.Guard{Kind: api.GuAfter, Chan: at("t", number(1)), Time: n}, skip),
				guarded(api.Guard{Kind: api.GuAfter, Cond: x, Chan: name("t"), Time: two(x, api.OperPlus, n)}, seq(stop)))}})
	}
	return append(l,
		sample{"IF", api.Process{Kind: api.PrIf}},
		sample{"IF/.x = n/..SKIP/.TRUE/..STOP", api.Process{Kind: api.PrIf, Guards: guards(guarded(api.Guard{Kind: api.GuIf, Cond: two(x, api.OperEq, n)}, skip), guarded(api.Guard{Kind: api.GuIf, Cond: truth(1)}, stop))}},
		sample{"IF i = - 1 FOR 2/.v[i]/..IF", api.Process{Kind: api.PrIf, Rep: api.Rep{Name: "i", Base: one(api.OperNeg, number(1)), Count: number(2)}, Guards: guards(guarded(api.Guard{Kind: api.GuIf, Cond: at("v", name("i"))}, api.Process{Kind: api.PrIf}))}})
}

// structured are samples of the remaining processes other than specifications.
func structured() []sample {
	x, c := name("x"), name("c")
	option := guarded(api.Guard{Kind: api.GuOption, Values: exprs(number(1), number(2))}, skip)
	tag := guarded(api.Guard{Kind: api.GuTag, Name: "end"}, stop)
	return []sample{
		{"PRI PAR/.SKIP/.STOP", api.Process{Kind: api.PrPriPar, L: procs(skip, stop)}},
		{"PRI PAR/.SEQ/..SKIP/.SEQ", api.Process{Kind: api.PrPriPar, L: procs(seq(skip), seq())}},
		{"PLACED PAR/.PROCESSOR 0/..SKIP", placed(skip)},
		{"PLACED PAR/.PROCESSOR 0/..SEQ/...SKIP/.PROCESSOR 7/..STOP", api.Process{Kind: api.PrPlaced, L: procs(seq(skip), stop), Procs: []int{0, 7}}},
		{"PLACED PAR" + many("/.PROCESSOR 3/..SKIP", 8, ""), api.Process{Kind: api.PrPlaced, L: slices.Repeat(procs(skip), 8), Procs: slices.Repeat([]int{3}, 8)}},
		{"CASE x", api.Process{Kind: api.PrCase, Exprs: exprs(x)}},
		{"CASE x + 1/.1, 2/..SKIP/.ELSE/..STOP/.x/..SKIP/.ELSE/..SKIP", api.Process{Kind: api.PrCase, Exprs: exprs(two(x, api.OperAdd, number(1))), Guards: guards(option, guarded(api.Guard{Kind: api.GuElse}, stop), guarded(api.Guard{Kind: api.GuOption, Values: exprs(x)}, skip), guarded(api.Guard{Kind: api.GuElse}, skip))}},
		{"CASE x" + many("/."+many("1", 8, ", ")+"/..SKIP", 16, ""), api.Process{Kind: api.PrCase, Exprs: exprs(x), Guards: slices.Repeat(guards(guarded(api.Guard{Kind: api.GuOption, Values: slices.Repeat(exprs(number(1)), 8)}, skip)), 16)}},
		{"c[1] ? CASE/.end/..STOP", api.Process{Kind: api.PrCaseIn, Chan: at("c", number(1)), Guards: guards(tag)}},
		{"c ? CASE/.put; x; v[1]/..SEQ/...SKIP/.end/..STOP/.end/..STOP", api.Process{Kind: api.PrCaseIn, Chan: c, Guards: guards(guarded(api.Guard{Kind: api.GuTag, Name: "put", Targets: exprs(x, at("v", number(1)))}, seq(skip)), tag, tag)}},
		{"c ? CASE" + many("/.t"+many("; x", 8, "")+"/..SKIP", 16, ""), api.Process{Kind: api.PrCaseIn, Chan: c, Guards: slices.Repeat(guards(guarded(api.Guard{Kind: api.GuTag, Name: "t", Targets: slices.Repeat(exprs(x), 8)}, skip)), 16)}},
		{"WHILE x > 0/.SKIP", api.Process{Kind: api.PrWhile, Exprs: exprs(two(x, api.OperGt, number(0))), L: procs(skip)}},
		{"WHILE TRUE/.WHILE FALSE/..STOP", while(api.Process{Kind: api.PrWhile, Exprs: exprs(truth(0)), L: procs(stop)})},
	}
}

// variants returns n variants.
func variants(n int) (l []api.Variant) {
	for i := range n {
		l = append(l, api.Variant{Tag: fmt.Sprint("t", i)})
	}
	return l
}

// variantRows returns the rows of variants.
func variantRows(n int) (s string) {
	for i := range n {
		s += fmt.Sprint("/..t", i)
	}
	return s
}

// specified are samples of specifications.
func specified() []sample {
	x := name("x")
	f := []string{"f"}
	return []sample{
		{"INT x:/SKIP", declare(skip)},
		{"INT x:/INT x:/STOP", declare(declare(stop))},
		{"[64] BOOL " + many("b", 8, ", ") + ":/SEQ/.SKIP", spec(api.Spec{Kind: api.SpDeclare, Type: array, Names: slices.Repeat([]string{"b"}, 8)}, seq(skip))},
		{"BYTE x, y:/SKIP", spec(api.Spec{Kind: api.SpDeclare, Type: character, Names: []string{"x", "y"}}, skip)},
		{"BOOL x:/SKIP", spec(api.Spec{Kind: api.SpDeclare, Type: truthful, Names: []string{"x"}}, skip)},
		{"TIMER t, u:/SKIP", spec(api.Spec{Kind: api.SpDeclare, Type: timer, Names: []string{"t", "u"}}, skip)},
		{"CHAN OF BYTE c:/SKIP", spec(api.Spec{Kind: api.SpDeclare, Type: channel, Names: []string{"c"}}, skip)},
		{"[3] CHAN OF p c, d:/SKIP", spec(api.Spec{Kind: api.SpDeclare, Type: channels, Names: []string{"c", "d"}}, skip)},
		{"INT x:/PLACED PAR/.PROCESSOR 1/..SKIP", declare(api.Process{Kind: api.PrPlaced, L: procs(skip), Procs: []int{1}})},
		{"VAL INT n IS x * 2:/STOP", spec(api.Spec{Kind: api.SpVal, Type: integer, Names: []string{"n"}, E: two(x, api.OperMul, number(2))}, stop)},
		{"VAL BOOL n IS FALSE:/STOP", spec(api.Spec{Kind: api.SpVal, Type: truthful, Names: []string{"n"}, E: truth(0)}, stop)},
		{"BYTE e IS v[x]:/STOP", spec(api.Spec{Kind: api.SpIs, Type: character, Names: []string{"e"}, E: at("v", x)}, stop)},
		{"BOOL e IS x:/STOP", spec(api.Spec{Kind: api.SpIs, Type: truthful, Names: []string{"e"}, E: x}, stop)},
		{"PROTOCOL f IS INT; BOOL:/SKIP", spec(api.Spec{Kind: api.SpProto, Names: f, Proto: api.Proto{L: []api.Variant{{Items: []api.TypeKind{api.TyInt, api.TyBool}}}}}, skip)},
		{"PROTOCOL f IS " + many("BYTE", 8, "; ") + ":/SKIP", spec(api.Spec{Kind: api.SpProto, Names: f, Proto: api.Proto{L: []api.Variant{{Items: slices.Repeat([]api.TypeKind{api.TyByte}, 8)}}}}, skip)},
		{"PROTOCOL f/.CASE/..put; INT; BYTE/..end/:/SKIP", spec(api.Spec{Kind: api.SpProto, Names: f, Proto: api.Proto{Cases: true, L: []api.Variant{{Tag: "put", Items: []api.TypeKind{api.TyInt, api.TyByte}}, {Tag: "end"}}}}, skip)},
		{"PROTOCOL f/.CASE/..put" + many("; BOOL", 8, "") + "/:/SKIP", spec(api.Spec{Kind: api.SpProto, Names: f, Proto: api.Proto{Cases: true, L: []api.Variant{{Tag: "put", Items: slices.Repeat([]api.TypeKind{api.TyBool}, 8)}}}}, skip)},
		{"PROTOCOL f/.CASE" + variantRows(16) + "/:/SKIP", spec(api.Spec{Kind: api.SpProto, Names: f, Proto: api.Proto{Cases: true, L: variants(16)}}, skip)},
		{"PROC f()/.STOP/:/SKIP", procedure(stop, skip)},
		{"PROC f()/.INT x:/.SEQ/..SKIP/:/PROC f()/.SKIP/:/f()", procedure(declare(seq(skip)), procedure(skip, api.Process{Kind: api.PrCall, Name: "f"}))},
		{"PROC f(VAL INT n, [3] CHAN OF p c, CHAN OF p d, [64] BOOL b)/.STOP/:/SKIP", spec(api.Spec{Kind: api.SpProc, Names: f, Formals: []api.Formal{{Val: true, Type: integer, Name: "n"}, {Type: channels, Name: "c"}, {Type: named, Name: "d"}, {Type: array, Name: "b"}}, Body: procs(stop)}, skip)},
		{"PROC f(" + many("VAL BYTE n", 8, ", ") + ")/.STOP/:/SKIP", spec(api.Spec{Kind: api.SpProc, Names: f, Formals: slices.Repeat([]api.Formal{{Val: true, Type: character, Name: "n"}}, 8), Body: procs(stop)}, skip)},
		{"PROC f(TIMER t, BOOL b)/.PROTOCOL f/..CASE/...t0/.:/.SKIP/:/PLACED PAR/.PROCESSOR 0/..STOP", spec(api.Spec{Kind: api.SpProc, Names: f, Formals: []api.Formal{{Type: timer, Name: "t"}, {Type: truthful, Name: "b"}}, Body: procs(spec(api.Spec{Kind: api.SpProto, Names: f, Proto: api.Proto{Cases: true, L: variants(1)}}, skip))}, placed(stop))},
		{"SEQ/.INT x:/.SKIP/.INT x:/.PROC f()/..STOP/.:/.STOP", seq(declare(skip), declare(procedure(stop, stop)))},
	}
}

// samples are valid processes of every kind, with every kind of guard and of specification, and lists of all sorts of lengths.
func samples() []sample { return slices.Concat(simple(), replicated(), structured(), specified()) }

// cloned returns a copy that shares no memory but that of expressions' operands.
func cloned(p api.Process) api.Process {
	p.Targets, p.Exprs, p.Procs = slices.Clone(p.Targets), slices.Clone(p.Exprs), slices.Clone(p.Procs)
	p.Guards, p.L, p.Spec.Body = slices.Clone(p.Guards), slices.Clone(p.L), slices.Clone(p.Spec.Body)
	p.Spec.Names, p.Spec.Formals, p.Spec.Proto.L = slices.Clone(p.Spec.Names), slices.Clone(p.Spec.Formals), slices.Clone(p.Spec.Proto.L)
	for i := range p.Spec.Proto.L {
		p.Spec.Proto.L[i].Items = slices.Clone(p.Spec.Proto.L[i].Items)
	}
	for i := range p.Guards {
		g := &p.Guards[i]
		g.Targets, g.Values, g.Body = slices.Clone(g.Targets), slices.Clone(g.Values), slices.Clone(g.Body)
		for i := range g.Body {
			g.Body[i] = cloned(g.Body[i])
		}
	}
	for i := range p.L {
		p.L[i] = cloned(p.L[i])
	}
	for i := range p.Spec.Body {
		p.Spec.Body[i] = cloned(p.Spec.Body[i])
	}
	return p
}
