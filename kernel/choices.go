package kernel

import (
	"transputer/api"
	"transputer/types"
)

// always returns a condition that is true.
func always() api.KExpr { return number(1) }

func choice(cond api.KExpr, body api.KProc) api.KGuard {
	return api.KGuard{Kind: api.GuIf, Cond: cond, Body: []api.KProc{body}}
}

func (x *elaborator) conditional(s *sequence, p *api.Process) {
	s.add(api.KProc{Kind: api.KpIf, Guards: x.guards(p)})
}

func (x *elaborator) alt(s *sequence, p *api.Process) {
	s.add(api.KProc{Kind: api.KpAlt, Guards: x.guards(p)})
}

func (x *elaborator) priAlt(s *sequence, p *api.Process) {
	s.add(api.KProc{Kind: api.KpPriAlt, Guards: x.guards(p)})
}

// guards returns the guards of an IF or an ALT.
func (x *elaborator) guards(p *api.Process) []api.KGuard {
	var l []api.KGuard
	x.replicate(p.Rep, func() {
		for i := range p.Guards {
			l = append(l, x.guard(&p.Guards[i]))
		}
	})
	return l
}

func (x *elaborator) guard(g *api.Guard) api.KGuard {
	k := api.KGuard{Kind: g.Kind, Cond: always()}
	if g.Cond.Kind != api.NoExpr {
		k.Cond = x.value(g.Cond)
	}
	var body sequence
	switch g.Kind {
	case api.GuInput:
		items := x.items(g.Chan)
		k.C, k.Item, k.To = x.channel(g.Chan), items[0], x.place(g.Targets[0])
		x.inputs(&body, k.C, items[1:], g.Targets[1:])
	case api.GuAfter:
		k.Time = x.value(g.Time)
	}
	x.then(&body, &g.Body[0])
	k.Body = []api.KProc{body.process()}
	return k
}

func isEqual(v int, n int32) api.KExpr { return dyadic(variable(v), api.OperEq, number(n)) }

// variants adds an input of a number, and a choice between the variants with these numbers.
func (x *elaborator) variants(s *sequence, p *api.Process) {
	c, proto := x.channel(p.Chan), x.protocol(p.Chan)
	v := x.newVar(api.TyByte, 0)
	s.add(api.KProc{Kind: api.KpIn, C: c, Item: api.TyByte, To: []api.KPlace{{V: v}}})
	var l []api.KGuard
	for i := range p.Guards {
		g := &p.Guards[i]
		items, n, _ := types.Find(proto, g.Name)
		var body sequence
		x.inputs(&body, c, items, g.Targets)
		x.then(&body, &g.Body[0])
		l = append(l, choice(isEqual(v, int32(n)), body.process()))
	}
	s.add(api.KProc{Kind: api.KpIf, Guards: l})
}

// options adds a choice between the options of a CASE.
func (x *elaborator) options(s *sequence, p *api.Process) {
	selector := p.Exprs[0]
	v := x.newValue(s, x.kindOf(selector), x.value(selector))
	seen := map[int32]bool{}
	var l, last []api.KGuard
	for i := range p.Guards {
		g := &p.Guards[i]
		if g.Kind == api.GuElse {
			last = append(last, choice(always(), x.alone(&g.Body[0])))
			continue
		}
		cond := x.isOneOf(v, g.Values, seen)
		l = append(l, choice(cond, x.alone(&g.Body[0])))
	}
	s.add(api.KProc{Kind: api.KpIf, Guards: append(l, last...)})
}

// isOneOf returns the condition that a variable has one of these values, none of which has been seen.
func (x *elaborator) isOneOf(v int, values []api.Expr, seen map[int32]bool) api.KExpr {
	var cond api.KExpr
	for i, e := range values {
		n, ok := x.constant(e)
		if !ok {
			panic(failure{api.ErrConst})
		}
		if seen[n] {
			panic(failure{api.ErrKernel})
		}
		seen[n] = true
		if i == 0 {
			cond = isEqual(v, n)
		} else {
			cond = dyadic(cond, api.OperOr, isEqual(v, n))
		}
	}
	return cond
}
