package syntax

import (
	"transputer/api"
	"transputer/expr"
	"transputer/lex"
	"transputer/types"
)

// How long the lists may be.
const (
	mostTargets = 8
	mostExprs   = 8
	mostSent    = 9 // by an output: a tag may be in front of the items
	mostValues  = 8
	mostGuards  = 16
	mostNames   = 8
	mostFormals = 8
)

// span is how many elements a list may have.
type span struct{ least, most int }

func (s span) has(n int) bool { return s.least <= n && n <= s.most }

// one returns the span of exactly one element, if there may be any.
func (s span) one() span {
	n := min(1, s.most)
	return span{n, n}
}

// form is which fields the processes of a kind have: lists with so many elements, and guards from the first to the last kind.
type form struct {
	name, channel, rep        bool
	targets, exprs, guards, l span
	firstGuard, lastGuard     api.GuardKind
	lower                     int // how much deeper than the process those of L are written
}

// formOf returns the form of a kind, and whether there is such a kind.
func formOf(k api.ProcKind) (f form, ok bool) {
	switch k {
	case api.PrSkip, api.PrStop:
		return form{}, true
	case api.PrAssign:
		return form{targets: span{1, mostTargets}, exprs: span{1, mostExprs}}, true
	case api.PrInput:
		return form{channel: true, targets: span{1, mostTargets}}, true
	case api.PrOutput:
		return form{channel: true, exprs: span{1, mostSent}}, true
	case api.PrAfter:
		return form{channel: true, exprs: span{1, 1}}, true
	case api.PrCaseIn:
		return form{channel: true, guards: span{1, mostGuards}, firstGuard: api.GuTag, lastGuard: api.GuTag}, true
	case api.PrSeq, api.PrPar:
		return form{rep: true, l: span{0, api.MaxTree}, lower: 1}, true
	case api.PrPriPar:
		return form{l: span{2, 2}, lower: 1}, true
	case api.PrPlaced:
		return form{l: span{1, api.MaxNodes}, lower: 2}, true
	case api.PrAlt, api.PrPriAlt:
		return form{rep: true, guards: span{0, mostGuards}, firstGuard: api.GuSkip, lastGuard: api.GuAfter}, true
	case api.PrIf:
		return form{rep: true, guards: span{0, mostGuards}, firstGuard: api.GuIf, lastGuard: api.GuIf}, true
	case api.PrCase:
		return form{exprs: span{1, 1}, guards: span{0, mostGuards}, firstGuard: api.GuOption, lastGuard: api.GuElse}, true
	case api.PrWhile:
		return form{exprs: span{1, 1}, l: span{1, 1}, lower: 1}, true
	case api.PrCall:
		return form{name: true, exprs: span{0, mostExprs}}, true
	case api.PrSpec:
		return form{l: span{1, 1}}, true
	}
	return form{}, false
}

// with returns the form of processes with r, which requires exactly one of what it stands in front of.
func (f form) with(r api.Rep) form {
	if r.Name != "" {
		f.guards, f.l = f.guards.one(), f.l.one()
	}
	return f
}

// guardForm is which fields a guard has.
type guardForm struct {
	name, cond, channel, time bool
	targets, values           span
}

// guardFormOf returns the form of a guard of one of the kinds that there are.
func guardFormOf(g *api.Guard) guardForm {
	switch g.Kind {
	case api.GuInput:
		return guardForm{cond: !isNone(g.Cond), channel: true, targets: span{1, mostTargets}}
	case api.GuAfter:
		return guardForm{cond: !isNone(g.Cond), channel: true, time: true}
	case api.GuOption:
		return guardForm{values: span{1, mostValues}}
	case api.GuElse:
		return guardForm{}
	case api.GuTag:
		return guardForm{name: true, targets: span{0, mostTargets}}
	}
	return guardForm{cond: true}
}

// specForm is which fields the specifications of a kind have.
type specForm struct {
	typed, primitive, value, element, proto bool
	names, formals, body                    span
}

// specFormOf returns the form of a kind, and whether there is such a kind: NoSpec is one, whose fields are all zero.
func specFormOf(k api.SpecKind) (f specForm, ok bool) {
	switch k {
	case api.NoSpec:
		return specForm{}, true
	case api.SpDeclare:
		return specForm{typed: true, names: span{1, mostNames}}, true
	case api.SpVal:
		return specForm{primitive: true, value: true, names: span{1, 1}}, true
	case api.SpIs:
		return specForm{primitive: true, element: true, names: span{1, 1}}, true
	case api.SpProto:
		return specForm{proto: true, names: span{1, 1}}, true
	case api.SpProc:
		return specForm{names: span{1, 1}, formals: span{0, mostFormals}, body: span{1, 1}}, true
	}
	return specForm{}, false
}

func isNone(x api.Expr) bool { return expr.Same(x, api.Expr{}) }

func isElement(x api.Expr) bool { return x.Kind == api.ExName || x.Kind == api.ExIndex }

func isPrimitive(t api.Type) bool { return types.May(t) && t.Kind <= api.TyBool && t.Dim == 0 }

// mayName reports whether s is a name if one is wanted, and otherwise whether it is zero.
func mayName(s string, wanted bool) bool {
	if wanted {
		return lex.Name(s)
	}
	return s == ""
}

// mayExpr reports whether x is an expression if one is wanted, and otherwise whether it is zero.
func mayExpr(x api.Expr, wanted bool) bool {
	if wanted {
		return expr.May(x)
	}
	return isNone(x)
}

func mayBeElement(x api.Expr) bool { return isElement(x) && expr.May(x) }

// mayElement reports whether x is an element if one is wanted, and otherwise whether it is zero.
func mayElement(x api.Expr, wanted bool) bool {
	if wanted {
		return mayBeElement(x)
	}
	return isNone(x)
}

// all reports whether l has so many elements, each of which may be one.
func all[T any](l []T, s span, may func(T) bool) bool {
	if !s.has(len(l)) {
		return false
	}
	for _, x := range l {
		if !may(x) {
			return false
		}
	}
	return true
}

func mayFormal(f api.Formal) bool {
	return types.May(f.Type) && (!f.Val || isPrimitive(f.Type)) && lex.Name(f.Name)
}

func mayProcessor(n int) bool { return 0 <= n && n < api.MaxNodes }

// mayRep reports whether r is a replicator, where there may be one, or zero.
func (f form) mayRep(r api.Rep) bool {
	is := r.Name != ""
	return (f.rep || !is) && mayName(r.Name, is) && mayExpr(r.Base, is) && mayExpr(r.Count, is)
}

// mayProcs reports whether p has as many numbers of processors as it requires.
func mayProcs(p *api.Process) bool {
	if p.Kind == api.PrPlaced {
		return all(p.Procs, span{len(p.L), len(p.L)}, mayProcessor)
	}
	return len(p.Procs) == 0
}

// mayAlone reports whether the fields of p are valid, whatever the processes in it, its guards and its specification are.
func (f form) mayAlone(p *api.Process) bool {
	return f.l.has(len(p.L)) && f.guards.has(len(p.Guards)) && mayName(p.Name, f.name) && mayElement(p.Chan, f.channel) &&
		all(p.Targets, f.targets, mayBeElement) && all(p.Exprs, f.exprs, expr.May) && f.mayRep(p.Rep) && mayProcs(p)
}

func mayGuard(g *api.Guard) bool {
	f := guardFormOf(g)
	return len(g.Body) == 1 && mayName(g.Name, f.name) && mayExpr(g.Cond, f.cond) && mayElement(g.Chan, f.channel) &&
		mayExpr(g.Time, f.time) && all(g.Targets, f.targets, mayBeElement) && all(g.Values, f.values, expr.May)
}

func (f specForm) mayType(t api.Type) bool {
	switch {
	case f.primitive:
		return isPrimitive(t)
	case f.typed:
		return types.May(t)
	}
	return t == api.Type{}
}

func (f specForm) mayProto(p api.Proto) bool {
	if f.proto {
		return types.MayProto(p)
	}
	return !p.Cases && len(p.L) == 0
}

// mayValue reports whether x is what a specification of this form names: an element, any expression, or nothing.
func (f specForm) mayValue(x api.Expr) bool {
	if f.element {
		return mayBeElement(x)
	}
	return mayExpr(x, f.value)
}

// maySpec reports whether the fields of s are valid, whatever the processes in Body are.
func maySpec(s *api.Spec) bool {
	f, ok := specFormOf(s.Kind)
	return ok && f.body.has(len(s.Body)) && f.mayType(s.Type) && all(s.Names, f.names, lex.Name) && f.mayValue(s.E) &&
		f.mayProto(s.Proto) && all(s.Formals, f.formals, mayFormal)
}

// check counts the processes of a tree. It goes no deeper than there may be processes, so that it may call itself.
type check struct{ size int }

// may reports whether the processes in p are valid and within the limits, where p itself is written at depth.
func (c *check) may(p *api.Process, depth int) bool {
	c.size++
	if c.size > api.MaxTree || depth > api.MaxDepth {
		return false
	}
	if p.Kind == api.PrPlaced && depth > 0 { // only what is in L[0] of specifications is as deep as they are
		return false
	}
	f, ok := formOf(p.Kind)
	return ok && f.with(p.Rep).mayAlone(p) && c.maySpecs(p, depth) && c.mayGuards(p.Guards, f, depth+1) && c.mayAll(p.L, depth+f.lower)
}

func (c *check) mayAll(l []api.Process, depth int) bool {
	for i := range l {
		if !c.may(&l[i], depth) {
			return false
		}
	}
	return true
}

func (c *check) mayGuards(l []api.Guard, f form, depth int) bool {
	for i := range l {
		g := &l[i]
		if g.Kind < f.firstGuard || g.Kind > f.lastGuard || !mayGuard(g) || !c.mayAll(g.Body, depth+1) {
			return false
		}
	}
	return true
}

// maySpecs reports whether p, written at depth, has a specification if its kind requires one, and a valid one.
func (c *check) maySpecs(p *api.Process, depth int) bool {
	if (p.Kind == api.PrSpec) != (p.Spec.Kind != api.NoSpec) {
		return false
	}
	if p.Spec.Proto.Cases && depth+2 > api.MaxDepth { // its variants are rows without a process
		return false
	}
	return maySpec(&p.Spec) && c.mayAll(p.Spec.Body, depth+1)
}

// May reports whether a process is valid.
func May(p api.Process) bool {
	c := &check{}
	return c.may(&p, 0)
}
