package syntax_test

import (
	"fmt"
	"reflect"

	"transputer/api"
)

func pick[T any](next func(int) int, l []T) T { return l[next(len(l))] }

// some returns from least to most elements.
func some[T any](next func(int) int, least, most int, f func() T) []T {
	l := make([]T, 0, most)
	for range least + next(most-least+1) {
		l = append(l, f())
	}
	return l
}

func anyName(next func(int) int) string { return pick(next, []string{"x", "y", "c", "from.host"}) }

// anyExpr returns a valid expression that is not long.
func anyExpr(next func(int) int) api.Expr {
	x := pick(next, []api.Expr{name("x"), number(int32(next(10) - 2)), char(int32(32 + next(95))), truth(int32(next(2))), size("v"), at("v", number(1)), name("from.host")})
	switch next(6) {
	case 0:
		return one(api.OperNeg+api.Operator(next(4)), x)
	case 1:
		return two(x, api.OperAdd+api.Operator(next(22)), pick(next, []api.Expr{x, one(api.OperNot, x), two(x, api.OperAnd, x)}))
	case 2:
		return convert(api.TyInt+api.TypeKind(next(3)), x)
	}
	return x
}

func anyElement(next func(int) int) api.Expr {
	if next(3) == 0 {
		return at(anyName(next), anyExpr(next))
	}
	return name(anyName(next))
}

func anyType(next func(int) int) api.Type {
	return pick(next, []api.Type{integer, character, truthful, array, channel, named, channels, timer, {Kind: api.TyInt, Dim: 1 + next(64)}})
}

func anyPrimitive(next func(int) int) api.Type {
	return pick(next, []api.Type{integer, character, truthful})
}

func anyItems(next func(int) int, least int) []api.TypeKind {
	return some(next, least, 3, func() api.TypeKind { return anyPrimitive(next).Kind })
}

func anyGuard(next func(int) int, k api.GuardKind, depth int) api.Guard {
	g := api.Guard{Kind: k, Body: procs(anyProcess(next, depth-1, false))}
	element := func() api.Expr { return anyElement(next) }
	value := func() api.Expr { return anyExpr(next) }
	switch k {
	case api.GuIf, api.GuSkip:
		g.Cond = anyExpr(next)
	case api.GuInput:
		g.Chan, g.Targets = anyElement(next), some(next, 1, 3, element)
	case api.GuAfter:
		g.Chan, g.Time = anyElement(next), anyExpr(next)
	case api.GuOption:
		g.Values = some(next, 1, 3, value)
	case api.GuTag:
		g.Name, g.Targets = anyName(next), some(next, 0, 3, element)
	}
	if k == api.GuInput && next(2) == 0 || k == api.GuAfter && next(2) == 0 {
		g.Cond = anyExpr(next)
	}
	return g
}

func anySpec(next func(int) int, depth int) api.Spec {
	s := api.Spec{Kind: api.SpDeclare + api.SpecKind(next(5)), Names: []string{anyName(next)}}
	switch s.Kind {
	case api.SpDeclare:
		s.Type, s.Names = anyType(next), some(next, 1, 3, func() string { return anyName(next) })
	case api.SpVal:
		s.Type, s.E = anyPrimitive(next), anyExpr(next)
	case api.SpIs:
		s.Type, s.E = anyPrimitive(next), anyElement(next)
	case api.SpProto:
		s.Proto.Cases = next(2) == 0
		if !s.Proto.Cases {
			s.Proto.L = []api.Variant{{Items: anyItems(next, 1)}}
			break
		}
		for i := range 1 + next(3) {
			s.Proto.L = append(s.Proto.L, api.Variant{Tag: fmt.Sprint("t", i), Items: anyItems(next, 0)})
		}
	case api.SpProc:
		s.Formals = some(next, 0, 3, func() api.Formal {
			if next(2) == 0 {
				return api.Formal{Val: true, Type: anyPrimitive(next), Name: anyName(next)}
			}
			return api.Formal{Type: anyType(next), Name: anyName(next)}
		})
		s.Body = procs(anyProcess(next, depth-1, false))
	}
	return s
}

// anyLeaf returns a valid process with one row.
func anyLeaf(next func(int) int) api.Process {
	element := func() api.Expr { return anyElement(next) }
	value := func() api.Expr { return anyExpr(next) }
	switch api.PrSkip + api.ProcKind(next(7)) {
	case api.PrAssign:
		return api.Process{Kind: api.PrAssign, Targets: some(next, 1, 3, element), Exprs: some(next, 1, 3, value)}
	case api.PrInput:
		return api.Process{Kind: api.PrInput, Chan: anyElement(next), Targets: some(next, 1, 3, element)}
	case api.PrOutput:
		return api.Process{Kind: api.PrOutput, Chan: anyElement(next), Exprs: some(next, 1, 4, value)}
	case api.PrAfter:
		return api.Process{Kind: api.PrAfter, Chan: anyElement(next), Exprs: exprs(anyExpr(next))}
	case api.PrStop:
		return stop
	case api.PrCaseIn:
		return api.Process{Kind: api.PrCall, Name: anyName(next), Exprs: some(next, 0, 3, value)}
	}
	return skip
}

// anyProcess returns a valid process that goes no deeper than so many processes, and that may be a PLACED PAR if it is at the top.
func anyProcess(next func(int) int, depth int, top bool) api.Process {
	if depth <= 1 {
		return anyLeaf(next)
	}
	inner := func() api.Process { return anyProcess(next, depth-1, false) }
	p := api.Process{Kind: api.PrCaseIn + api.ProcKind(next(12))}
	switch p.Kind {
	case api.PrSeq, api.PrPar:
		p.L = some(next, 0, 3, inner)
	case api.PrPriPar:
		p.L = some(next, 2, 2, inner)
	case api.PrPlaced:
		if !top {
			return anyLeaf(next)
		}
		p.L = some(next, 1, 8, inner)
		p.Procs = some(next, len(p.L), len(p.L), func() int { return next(8) })
	case api.PrCaseIn:
		p.Chan, p.Guards = anyElement(next), some(next, 1, 3, func() api.Guard { return anyGuard(next, api.GuTag, depth) })
	case api.PrAlt, api.PrPriAlt:
		p.Guards = some(next, 0, 3, func() api.Guard { return anyGuard(next, api.GuSkip+api.GuardKind(next(3)), depth) })
	case api.PrIf:
		p.Guards = some(next, 0, 3, func() api.Guard { return anyGuard(next, api.GuIf, depth) })
	case api.PrCase:
		p.Exprs = exprs(anyExpr(next))
		p.Guards = some(next, 0, 3, func() api.Guard { return anyGuard(next, api.GuOption+api.GuardKind(next(2)), depth) })
	case api.PrWhile:
		p.Exprs, p.L = exprs(anyExpr(next)), procs(inner())
	case api.PrCall, api.PrSpec:
		return spec(anySpec(next, depth), anyProcess(next, depth-1+next(2), top))
	}
	if len(p.L) == 1 && (p.Kind == api.PrSeq || p.Kind == api.PrPar) || len(p.Guards) == 1 && (p.Kind == api.PrAlt || p.Kind == api.PrPriAlt || p.Kind == api.PrIf) {
		if next(2) == 0 {
			p.Rep = api.Rep{Name: anyName(next), Base: anyExpr(next), Count: anyExpr(next)}
		}
	}
	return p
}

// broken changes a field of a process in p, of one of its guards or of its specification.
func broken(p *api.Process, next func(int) int, settings map[string][]any) {
	var l []*api.Process
	inside(p, func(x *api.Process) { l = append(l, x) })
	x := pick(next, l)
	if len(x.Guards) > 0 && next(2) == 0 {
		g := &x.Guards[next(len(x.Guards))]
		switch next(5) {
		case 0:
			g.Kind = api.GuardKind(next(9))
		case 1:
			g.Cond = pick(next, settings["Chan"]).(api.Expr)
		case 2:
			g.Targets = pick(next, settings["Targets"]).([]api.Expr)
		case 3:
			g.Body = pick(next, settings["L"][:3]).([]api.Process)
		case 4:
			g.Name = pick(next, settings["Name"]).(string)
		}
		return
	}
	if x.Kind == api.PrSpec && next(2) == 0 {
		switch next(4) {
		case 0:
			x.Spec.Kind = api.SpecKind(next(7))
		case 1:
			x.Spec.Type = anyType(next)
		case 2:
			x.Spec.E = pick(next, settings["Chan"]).(api.Expr)
		case 3:
			x.Spec.Names = append(x.Spec.Names, pick(next, settings["Name"]).(string))
		}
		return
	}
	field := pick(next, []string{"Name", "Procs", "Rep", "Spec", "Kind", "Chan", "Targets", "Exprs", "L", "Guards"})
	reflect.ValueOf(x).Elem().FieldByName(field).Set(reflect.ValueOf(pick(next, settings[field])))
}
