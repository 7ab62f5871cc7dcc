package syntax_test

import (
	"fmt"
	"reflect"
	"slices"
	"strings"
	"testing"

	"transputer/api"
	"transputer/syntax"
)

func checkMay(t *testing.T, what string, p api.Process, want bool) {
	t.Helper()
	if got := syntax.May(p); got != want {
		t.Errorf("May(%s: %s) = %t", what, brief(p), got)
	}
	l, e := syntax.Print(p)
	if !want && (e != api.ErrArg || len(l) > 0) || want && e == api.ErrArg {
		t.Errorf("Print(%s: %s) = %s, %d", what, brief(p), brief(l), e)
	}
}

// P11.1, P11.2: the samples are valid, by the chapter's rules too.
func TestMaySamples(t *testing.T) {
	for _, c := range samples() {
		checkMay(t, c.s, c.p, true)
		if !mayByRules(c.p) {
			t.Errorf("%s is not valid by the rules", c.s)
		}
	}
}

// settings are values for each field of a process, by its name: valid where some kind uses the field, and not valid.
func settings() map[string][]any {
	x := name("x")
	body := procs(skip)
	l := map[string][]any{
		"Name":  {"", "a", strings.Repeat("n", 32), "SKIP", "1", "a b", strings.Repeat("n", 33)},
		"Procs": {[]int(nil), []int{}, []int{0}, []int{7}, []int{-1}, []int{8}, []int{0, 1}, []int{0, 8}, make([]int, 7), make([]int, 8), make([]int, 9)},
		"Rep": {api.Rep{}, api.Rep{Name: "i", Base: x, Count: x}, api.Rep{Name: "i", Base: number(1), Count: size("v")}, api.Rep{Name: "IF", Base: x, Count: x}, api.Rep{Base: x, Count: x},
			api.Rep{Base: x}, api.Rep{Count: x}, api.Rep{Name: "i"}, api.Rep{Name: "i", Base: x}, api.Rep{Name: "i", Count: x}, api.Rep{Name: "i", Base: x, Count: char(256)}, api.Rep{Name: "i", Base: truth(2), Count: x},
			api.Rep{Base: api.Expr{S: "x"}}, api.Rep{Count: api.Expr{N: 1}}, api.Rep{Base: api.Expr{L: []api.Expr{}}}},
		"Spec": {api.Spec{}, api.Spec{Kind: api.SpDeclare, Type: timer, Names: []string{"a"}}, api.Spec{Kind: api.SpProc, Names: []string{"a"}, Body: body}, api.Spec{Kind: 6}, api.Spec{Type: integer}, api.Spec{Names: []string{"a"}},
			api.Spec{E: x}, api.Spec{Proto: api.Proto{Cases: true}}, api.Spec{Proto: api.Proto{L: variants(1)}}, api.Spec{Formals: make([]api.Formal, 1)}, api.Spec{Body: body}, api.Spec{Names: []string{}, Body: []api.Process{}}},
		"Kind": {api.NoProc, api.PrSkip, api.PrStop, api.PrAssign, api.PrInput, api.PrOutput, api.PrAfter, api.PrCaseIn, api.PrSeq, api.PrPar, api.PrPriPar, api.PrPlaced, api.PrAlt, api.PrPriAlt, api.PrIf, api.PrCase, api.PrWhile, api.PrCall, api.PrSpec, api.ProcKind(19), api.ProcKind(255)},
	}
	for _, x := range slices.Concat(elements(), values(), noExprs()) {
		l["Chan"] = append(l["Chan"], x)
		for _, field := range []string{"Targets", "Exprs"} {
			l[field] = append(l[field], exprs(x), exprs(name("y"), x), append(slices.Repeat(exprs(name("y")), 7), x))
		}
	}
	for n := range 11 {
		for _, field := range []string{"Targets", "Exprs"} {
			l[field] = append(l[field], slices.Repeat(exprs(x), n), slices.Repeat(exprs(at("v", x)), n))
		}
	}
	for n := range 19 {
		l["L"] = append(l["L"], slices.Repeat(procs(skip), n))
		for k := range 9 {
			g := guard(api.GuardKind(k))
			l["Guards"] = append(l["Guards"], slices.Repeat(guards(g), n), append(guards(guard(api.GuInput)), slices.Repeat(guards(g), n)...))
		}
	}
	return l
}

// guard returns the least guard of a kind.
func guard(k api.GuardKind) api.Guard {
	g := api.Guard{Kind: k, Body: procs(skip)}
	switch k {
	case api.GuIf, api.GuSkip:
		g.Cond = name("x")
	case api.GuInput:
		g.Chan, g.Targets = name("c"), exprs(name("x"))
	case api.GuAfter:
		g.Chan, g.Time = name("c"), name("x")
	case api.GuOption:
		g.Values = exprs(name("x"))
	case api.GuTag:
		g.Name = "a"
	}
	return g
}

// changed calls f with each struct that is x but for one field, which has one of the values that are given for it.
func changed[T any](x T, settings map[string][]any, f func(field string, y T)) {
	for field, l := range settings {
		for _, value := range l {
			y := x
			reflect.ValueOf(&y).Elem().FieldByName(field).Set(reflect.ValueOf(value))
			f(field, y)
		}
	}
}

// P11.1: each field of each kind of process, and pairs of fields, with values at the edges of what is allowed and beyond.
func TestMayFields(t *testing.T) {
	all := settings()
	count := map[bool]int{}
	check := func(what string, p api.Process) {
		want := processFits(p) // which is all that there is to ask of a process at the root with none but simple processes in it
		count[want]++
		if got := syntax.May(p); got != want {
			t.Errorf("May(%s: %s) = %t", what, brief(p), got)
		}
	}
	for _, k := range all["Kind"] {
		changed(api.Process{Kind: k.(api.ProcKind)}, all, func(field string, p api.Process) { check(field, p) })
	}
	for _, c := range samples() {
		check(c.s, c.p)
		if strings.Contains(c.s, "16") || len(c.s) > 60 || c.p.Kind == api.PrSpec {
			continue
		}
		changed(c.p, all, func(field string, p api.Process) {
			check(field, p)
			if field == "Rep" || field == "Procs" {
				changed(p, map[string][]any{"L": all["L"], "Guards": all["Guards"][:40]}, func(field string, p api.Process) { check(field, p) })
			}
		})
	}
	if count[true] < 1000 || count[false] < 20000 {
		t.Errorf("%v are valid: too few or too many to test anything", count)
	}
}

// P11.1: each field of each kind of guard.
func TestMayGuards(t *testing.T) {
	all := settings()
	fields := map[string][]any{"Name": all["Name"], "Cond": all["Chan"], "Chan": all["Chan"], "Time": all["Chan"], "Targets": all["Targets"], "Values": all["Targets"],
		"Body": {[]api.Process(nil), []api.Process{}, procs(skip), procs(skip, skip), procs(api.Process{}), procs(seq(stop)), procs(api.Process{Kind: api.PrSkip, Name: "a"})}}
	count := map[bool]int{}
	homes := []api.Process{{Kind: api.PrAlt}, {Kind: api.PrPriAlt}, {Kind: api.PrIf}, {Kind: api.PrCase, Exprs: exprs(name("x"))}, {Kind: api.PrCaseIn, Chan: name("c")}, {Kind: api.PrSeq}, {}}
	for _, p := range homes {
		for k := range 10 {
			changed(guard(api.GuardKind(k)), fields, func(field string, g api.Guard) {
				p.Guards = guards(g)
				want := processFits(p) && !slices.ContainsFunc(g.Body, func(x api.Process) bool { return !mayByRules(x) })
				count[want]++
				checkMay(t, fmt.Sprint(field, " of ", k), p, want)
				if p.Kind != api.PrIf {
					return
				}
				p.Guards = guards(guard(api.GuIf), g, guard(api.GuIf))
				checkMay(t, fmt.Sprint("second ", field, " of ", k), p, want)
			})
		}
	}
	if count[true] < 300 || count[false] < 5000 {
		t.Errorf("%v are valid: too few or too many to test anything", count)
	}
}

// P11.1: each kind of guard behind each kind of process.
func TestMayGuardKinds(t *testing.T) {
	allowed := map[api.ProcKind][]int{api.PrCaseIn: {7}, api.PrAlt: {2, 3, 4}, api.PrPriAlt: {2, 3, 4}, api.PrIf: {1}, api.PrCase: {5, 6}}
	for k, kinds := range allowed {
		for g := range 256 {
			p := api.Process{Kind: k, Guards: guards(guard(api.GuardKind(g)))}
			if k == api.PrCaseIn {
				p.Chan = name("c")
			}
			if k == api.PrCase {
				p.Exprs = exprs(name("c"))
			}
			checkMay(t, fmt.Sprint(k, " with ", g), p, slices.Contains(kinds, g))
		}
	}
}

// P11.1: each field of each kind of specification.
func TestMaySpecs(t *testing.T) {
	all := settings()
	item := []api.TypeKind{api.TyInt}
	fields := map[string][]any{
		"Kind": {api.NoSpec, api.SpDeclare, api.SpVal, api.SpIs, api.SpProto, api.SpProc, api.SpecKind(6), api.SpecKind(255)},
		"Type": {api.Type{}, integer, character, truthful, array, channel, named, channels, timer, api.Type{Kind: api.TyInt, Dim: 1}, api.Type{Kind: api.TyInt, Dim: 65}, api.Type{Kind: api.TyInt, Dim: -1}, api.Type{Kind: api.TyChan}, api.Type{Kind: 6}, api.Type{Dim: 1},
			api.Type{Kind: api.TyBool, Item: api.TyInt}, api.Type{Kind: api.TyByte, Proto: "p"}, api.Type{Item: api.TyInt}, api.Type{Proto: "p"}, api.Type{Kind: api.TyTimer, Dim: 1}},
		"Names": {[]string(nil), []string{}},
		"E":     all["Chan"],
		"Proto": {api.Proto{}, api.Proto{L: []api.Variant{}}, api.Proto{Cases: true}, api.Proto{L: []api.Variant{{}}}, api.Proto{L: []api.Variant{{Items: item}}}, api.Proto{L: []api.Variant{{Items: slices.Repeat(item, 8)}}}, api.Proto{L: []api.Variant{{Items: slices.Repeat(item, 9)}}},
			api.Proto{L: []api.Variant{{Items: []api.TypeKind{api.TyChan}}}}, api.Proto{L: []api.Variant{{Tag: "a", Items: item}}}, api.Proto{Cases: true, L: variants(1)}, api.Proto{Cases: true, L: variants(16)}, api.Proto{Cases: true, L: variants(17)},
			api.Proto{Cases: true, L: append(variants(1), variants(1)...)}, api.Proto{Cases: true, L: []api.Variant{{Tag: "IF"}}}, api.Proto{Cases: true, L: []api.Variant{{}}}, api.Proto{Cases: true, L: []api.Variant{{Tag: "a", Items: slices.Repeat(item, 8)}}}, api.Proto{Cases: true, L: []api.Variant{{Tag: "a", Items: slices.Repeat(item, 9)}}}},
		"Body": {[]api.Process(nil), []api.Process{}, procs(skip), procs(skip, skip), procs(api.Process{}), procs(seq(stop)), procs(placed(skip))},
	}
	for n := range 11 {
		fields["Names"] = append(fields["Names"], slices.Repeat([]string{"a"}, n))
		for _, f := range []api.Formal{{Type: integer, Name: "a"}, {Val: true, Type: truthful, Name: "a"}, {Type: named, Name: "a"}, {Type: timer, Name: "a"}} {
			fields["Formals"] = append(fields["Formals"], slices.Repeat([]api.Formal{f}, n))
		}
	}
	for _, s := range noNames {
		fields["Names"] = append(fields["Names"], []string{s}, []string{"a", s}, []string{"a", "b", "c", "d", "e", "f", "g", s})
		fields["Formals"] = append(fields["Formals"], []api.Formal{{Type: integer, Name: s}}, []api.Formal{{Type: integer, Name: "a"}, {Type: integer, Name: s}})
	}
	for _, x := range fields["Type"] {
		fields["Formals"] = append(fields["Formals"], []api.Formal{{Type: x.(api.Type), Name: "a"}}, []api.Formal{{Val: true, Type: x.(api.Type), Name: "a"}}, []api.Formal{{Type: integer, Name: "a"}, {Val: true, Type: x.(api.Type), Name: "a"}})
	}
	bases := []api.Spec{{}, {Kind: api.SpVal, Type: integer, Names: []string{"a"}, E: number(1)}, {Kind: api.SpIs, Type: integer, Names: []string{"a"}, E: name("x")},
		{Kind: api.SpProto, Names: []string{"a"}, Proto: api.Proto{Cases: true, L: variants(2)}}, {Kind: api.SpProto, Names: []string{"a"}, Proto: api.Proto{L: []api.Variant{{Items: item}}}}}
	for _, c := range specified() {
		bases = append(bases, c.p.Spec)
	}
	count := map[bool]int{}
	for _, base := range bases {
		changed(base, fields, func(field string, s api.Spec) {
			p := spec(s, skip)
			want := processFits(p) && !slices.ContainsFunc(s.Body, func(x api.Process) bool { return x.Kind == api.PrPlaced || !mayByRules(x) })
			count[want]++
			checkMay(t, field, p, want)
		})
	}
	if count[true] < 500 || count[false] < 3000 {
		t.Errorf("%v are valid: too few or too many to test anything", count)
	}
}

// P11.1: what a name is, in each place where there is one.
func TestMayNames(t *testing.T) {
	for i, l := range [][]string{names, noNames} {
		for _, s := range l {
			for _, p := range []api.Process{
				{Kind: api.PrCall, Name: s},
				{Kind: api.PrSeq, Rep: api.Rep{Name: s, Base: number(0), Count: number(0)}, L: procs(skip)},
				{Kind: api.PrCaseIn, Chan: name("c"), Guards: guards(guarded(api.Guard{Kind: api.GuTag, Name: s}, skip))},
				{Kind: api.PrInput, Chan: name(s), Targets: exprs(name("x"))},
				{Kind: api.PrInput, Chan: name("x"), Targets: exprs(at(s, name("x")))},
				spec(api.Spec{Kind: api.SpDeclare, Type: integer, Names: []string{s}}, skip),
				spec(api.Spec{Kind: api.SpProc, Names: []string{"f"}, Formals: []api.Formal{{Type: integer, Name: s}}, Body: procs(skip)}, skip),
			} {
				if got := syntax.May(p); got != (i == 0) && !(s == "" && p.Kind == api.PrSeq) {
					t.Errorf("May(%s) = %t", brief(p), got)
				}
			}
		}
	}
}

// P11.1: a replicator is required to have all its parts, and the process exactly one process or guard.
func TestMayRep(t *testing.T) {
	x := name("x")
	good := api.Rep{Name: "i", Base: x, Count: x}
	for n := range 4 {
		for _, k := range []api.ProcKind{api.PrSeq, api.PrPar} {
			p := api.Process{Kind: k, L: slices.Repeat(procs(skip), n)}
			checkMay(t, "without", p, true)
			p.Rep = good
			checkMay(t, "with", p, n == 1)
		}
		for _, k := range []api.ProcKind{api.PrAlt, api.PrPriAlt, api.PrIf} {
			g := guard(api.GuSkip)
			if k == api.PrIf {
				g = guard(api.GuIf)
			}
			p := api.Process{Kind: k, Guards: slices.Repeat(guards(g), n)}
			checkMay(t, "without", p, true)
			p.Rep = good
			checkMay(t, "with", p, n == 1)
		}
	}
	for _, r := range []api.Rep{{Name: "IF", Base: x, Count: x}, {Base: x, Count: x}, {Base: x}, {Count: x}, {Name: "i"}, {Name: "i", Base: x}, {Name: "i", Count: x}, {Name: "i", Base: api.Expr{S: "x"}, Count: x}, {Base: api.Expr{S: "x"}}, {Count: api.Expr{L: exprs(x)}}} {
		checkMay(t, "part", api.Process{Kind: api.PrSeq, Rep: r, L: procs(skip)}, false)
		checkMay(t, "part", api.Process{Kind: api.PrIf, Rep: r, Guards: guards(guard(api.GuIf))}, false)
	}
	for _, c := range slices.Concat(simple(), structured(), specified()) {
		if c.p.Kind != api.PrSeq {
			c.p.Rep = good
			checkMay(t, c.s, c.p, false)
		}
	}
}

// P11.1: a PLACED PAR is only where nothing but specifications are around it.
func TestMayPlaced(t *testing.T) {
	for _, c := range []struct {
		p    api.Process
		want bool
	}{
		{placed(skip), true},
		{declare(placed(skip)), true},
		{declare(declare(declare(placed(skip, stop)))), true},
		{procedure(skip, placed(skip)), true},
		{procedure(seq(declare(skip)), declare(placed(skip))), true},
		{procedure(placed(skip), skip), false},
		{procedure(declare(placed(skip)), skip), false},
		{procedure(placed(skip), placed(skip)), false},
		{seq(placed(skip)), false},
		{seq(declare(placed(skip))), false},
		{declare(seq(placed(skip))), false},
		{declare(seq(skip, skip, placed(skip))), false},
		{placed(placed(skip)), false},
		{placed(skip, placed(skip)), false},
		{placed(declare(placed(skip))), false},
		{while(placed(skip)), false},
		{ifs(placed(skip)), false},
		{declare(ifs(declare(placed(skip)))), false},
		{api.Process{Kind: api.PrPriPar, L: procs(skip, placed(skip))}, false},
		{api.Process{Kind: api.PrPlaced, L: procs(skip)}, false},
		{api.Process{Kind: api.PrPlaced, Procs: []int{1}}, false},
		{api.Process{Kind: api.PrPlaced, L: procs(skip), Procs: []int{0, 1}}, false},
		{api.Process{Kind: api.PrPlaced, L: procs(skip, skip), Procs: []int{1}}, false},
		{api.Process{Kind: api.PrPlaced, L: procs(skip, skip), Procs: []int{1, 1}}, true},
		{placed(slices.Repeat(procs(skip), 8)...), true},
		{placed(slices.Repeat(procs(skip), 9)...), false},
		{placed(), false},
	} {
		checkMay(t, "placed", c.p, c.want)
		if got := mayByRules(c.p); got != c.want {
			t.Errorf("%s by the rules: %t", brief(c.p), got)
		}
	}
}

// P11.1: 2048 processes are valid, and 2049 are not, wherever they are.
func TestMaySize(t *testing.T) {
	full := slices.Repeat(guards(guarded(api.Guard{Kind: api.GuIf, Cond: name("x")}, skip)), 16)
	for n := 2046; n <= 2051; n++ {
		wide := seq(slices.Repeat(procs(skip), n-1)...)
		chain := skip
		bodies := skip
		for range n - 1 {
			chain = declare(chain)
		}
		for range (n - 1) / 2 {
			bodies = procedure(stop, bodies)
		}
		if n%2 == 0 {
			bodies = declare(bodies)
		}
		choices := seq(slices.Repeat(procs(api.Process{Kind: api.PrIf, Guards: full}), (n-1)/17)...)
		for syntax.Size(choices) < n {
			choices.L = append(choices.L, skip)
		}
		for what, p := range map[string]api.Process{"wide": wide, "chain": chain, "bodies": bodies, "choices": choices} {
			if got := syntax.Size(p); got != n {
				t.Fatalf("%s: %d, not %d", what, got, n)
			}
			if got := syntax.May(p); got != (n <= 2048) {
				t.Errorf("%s of %d: May = %t", what, n, got)
			}
			if p.Kind != api.PrSpec {
				if got := syntax.May(declare(p)); got != (n < 2048) {
					t.Errorf("%s of %d in one: May = %t", what, n, got)
				}
				if got := syntax.May(procedure(p, skip)); got != (n < 2047) {
					t.Errorf("%s of %d in a procedure: May = %t", what, n, got)
				}
			}
		}
	}
}

// P11.1: rows at the depth 32 are valid, and at 33 they are not, in each way that a row becomes deeper.
func TestMayDepth(t *testing.T) {
	protocol := spec(api.Spec{Kind: api.SpProto, Names: []string{"p"}, Proto: api.Proto{Cases: true, L: variants(1)}}, skip)
	plain := spec(api.Spec{Kind: api.SpProto, Names: []string{"p"}, Proto: api.Proto{L: []api.Variant{{Items: []api.TypeKind{api.TyInt}}}}}, skip)
	tagged := api.Process{Kind: api.PrCaseIn, Chan: name("c"), Guards: guards(guard(api.GuTag))}
	choice := api.Process{Kind: api.PrCase, Exprs: exprs(name("c")), Guards: guards(guard(api.GuElse))}
	alt := api.Process{Kind: api.PrPriAlt, Guards: guards(guard(api.GuInput))}
	for what, c := range map[string]struct {
		inner api.Process
		lower int
	}{
		"none": {skip, 0}, "seq": {seq(skip), 1}, "no list": {seq(), 0}, "no guards": {api.Process{Kind: api.PrIf}, 0}, "while": {while(skip), 1}, "pri par": {api.Process{Kind: api.PrPriPar, L: procs(skip, skip)}, 1},
		"if": {ifs(skip), 2}, "alt": {alt, 2}, "case": {choice, 2}, "tag": {tagged, 2}, "protocol": {protocol, 2}, "without cases": {plain, 0}, "procedure": {procedure(stop, skip), 1},
		"procedure deeper": {procedure(seq(stop), skip), 2}, "declaration": {declare(skip), 0}, "behind": {declare(seq(skip)), 1}, "procedure and seq": {procedure(skip, seq(seq(skip))), 2},
	} {
		for depth := 28; depth <= 34; depth++ {
			ways := map[string]api.Process{"seq": c.inner, "last": c.inner, "while": c.inner, "spec": c.inner, "procedure": c.inner}
			for range depth {
				ways["seq"] = seq(ways["seq"])
				ways["last"] = seq(skip, seq(), ways["last"])
				ways["while"] = while(ways["while"])
				ways["spec"] = seq(declare(ways["spec"]))
				ways["procedure"] = procedure(ways["procedure"], skip)
			}
			if depth%2 == 0 {
				x, y := c.inner, c.inner
				for range depth / 2 {
					x = ifs(x)
					y = api.Process{Kind: api.PrAlt, Guards: guards(guard(api.GuSkip), guarded(api.Guard{Kind: api.GuSkip, Cond: name("x")}, y))}
				}
				ways["if"], ways["alt"] = x, y
				x = c.inner
				for range depth - 2 {
					x = seq(x)
				}
				ways["placed"] = placed(skip, x)
			}
			for way, p := range ways {
				checkMay(t, fmt.Sprint(what, " in ", way, " at ", depth), p, depth+c.lower <= 32)
			}
		}
	}
}

// P11.1: a process that is not valid is found wherever it is.
func TestMayInside(t *testing.T) {
	bad := []api.Process{{}, {Kind: 19}, {Kind: api.PrSkip, Name: "a"}, {Kind: api.PrAssign}, {Kind: api.PrPriPar, L: procs(skip)}, spec(api.Spec{}, skip), {Kind: api.PrSpec, Spec: api.Spec{Kind: api.SpDeclare, Type: integer, Names: []string{"a"}}}}
	for _, c := range samples() {
		p := cloned(c.p)
		inside(&p, func(place *api.Process) {
			was := *place
			for _, b := range bad {
				*place = b
				if syntax.May(p) {
					t.Errorf("May(%s) = true, with %s in it", brief(p), brief(b))
				}
			}
			*place = was
		})
		checkMay(t, c.s, p, true)
	}
}

// P11.1: May is the same as by the chapter's rules, for many trees without a pattern.
func TestMayRandom(t *testing.T) {
	next := random(11)
	all := settings()
	valid := 0
	for range 20000 {
		p := cloned(anyProcess(next, 1+next(5), true))
		if next(3) > 0 {
			broken(&p, next, all)
		}
		want := mayByRules(p)
		if want {
			valid++
		}
		checkMay(t, "random", p, want)
	}
	if valid < 5000 || valid > 15000 {
		t.Errorf("%d are valid: too few or too many to test anything", valid)
	}
}

// P11.1, R1: a check of a tree stops as soon as a limit is exceeded.
func TestMayStops(t *testing.T) {
	shared := skip
	for range 31 {
		shared = seq(shared, shared)
	}
	endless := seq(skip)
	endless.L[0] = endless
	chain := declare(skip)
	chain.L[0] = chain
	around := procedure(skip, skip)
	around.Spec.Body[0], around.L[0] = around, around
	choice := ifs(skip)
	choice.Guards[0].Body[0] = choice
	million := 1000000
	crowd := slices.Repeat(procs(skip), million)
	x := api.Expr{Kind: api.ExIndex, S: "v", L: slices.Repeat(exprs(number(1)), million)}
	for what, p := range map[string]api.Process{
		"2^31": shared, "endless": endless, "chain": chain, "around": around, "choice": choice,
		"wide":    {Kind: api.PrSeq, L: crowd},
		"both":    {Kind: api.PrPar, L: slices.Repeat(procs(chain), 10000)},
		"guards":  {Kind: api.PrIf, Guards: slices.Repeat(guards(guard(api.GuIf)), 100000)},
		"body":    {Kind: api.PrIf, Guards: guards(api.Guard{Kind: api.GuIf, Cond: truth(1), Body: crowd})},
		"targets": {Kind: api.PrAssign, Targets: slices.Repeat(exprs(number(1)), million), Exprs: exprs(number(1))},
		"exprs":   {Kind: api.PrAssign, Exprs: slices.Repeat(exprs(name("x")), million), Targets: exprs(name("x"))},
		"names":   spec(api.Spec{Kind: api.SpDeclare, Type: integer, Names: slices.Repeat([]string{"x"}, million)}, skip),
		"formals": spec(api.Spec{Kind: api.SpProc, Names: []string{"x"}, Formals: slices.Repeat([]api.Formal{{Type: integer, Name: "x"}}, million), Body: procs(skip)}, skip),
		"specs":   spec(api.Spec{Kind: api.SpProc, Names: []string{"x"}, Body: crowd}, skip),
		"procs":   {Kind: api.PrPlaced, L: procs(skip), Procs: make([]int, million)},
		"tags":    spec(api.Spec{Kind: api.SpProto, Names: []string{"x"}, Proto: api.Proto{Cases: true, L: variants(million)}}, skip),
		"items":   spec(api.Spec{Kind: api.SpProto, Names: []string{"x"}, Proto: api.Proto{L: []api.Variant{{Items: make([]api.TypeKind, million)}}}}, skip),
		"expr":    {Kind: api.PrInput, Chan: name("c"), Targets: exprs(x)},
		"cond":    {Kind: api.PrIf, Guards: guards(guarded(api.Guard{Kind: api.GuIf, Cond: x}, skip))},
		"name":    {Kind: api.PrCall, Name: strings.Repeat("n", million)},
		"unused":  {Kind: api.PrSkip, Targets: slices.Repeat(exprs(x), 10), L: procs(endless)},
		"kind":    {L: procs(endless)},
	} {
		l, e := syntax.Print(p)
		if syntax.May(p) || len(l) != 0 || e != api.ErrArg {
			t.Errorf("%s: %t, %d", what, syntax.May(p), e)
		}
	}
}
