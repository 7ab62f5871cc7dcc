package kernel

import "transputer/api"

// bounds returns what a replicator begins with, and how many times its part is elaborated, or why it is not.
func (x *elaborator) bounds(r api.Rep) (base, count int32, e api.Errno) {
	base, ok := x.constant(r.Base)
	if !ok {
		return 0, 0, api.ErrConst
	}
	count, ok = x.constant(r.Count)
	if !ok {
		return 0, 0, api.ErrConst
	}
	if count < 0 || count > api.MaxBranch {
		return 0, 0, api.ErrKernel
	}
	return base, count, api.OK
}

// repeat calls part so many times, with the name of a replicator standing for the numbers from base on.
func (x *elaborator) repeat(name string, base, count int32, part func()) {
	for i := range count {
		x.names[name] = numbered(name, api.Type{Kind: api.TyInt}, base+i)
		part()
	}
}

// replicate calls part once, or as many times as a replicator says.
func (x *elaborator) replicate(r api.Rep, part func()) {
	if r.Name == "" {
		part()
		return
	}
	base, count, e := x.bounds(r)
	if e != api.OK {
		panic(failure{e})
	}
	x.repeat(r.Name, base, count, part)
}

func (x *elaborator) par(s *sequence, p *api.Process) {
	var l []api.KProc
	x.replicate(p.Rep, func() {
		for i := range p.L {
			l = append(l, x.alone(&p.L[i]))
		}
	})
	s.add(api.KProc{Kind: api.KpPar, L: l})
}

func (x *elaborator) seq(s *sequence, p *api.Process) {
	before := len(*s)
	all := func() {
		for i := range p.L {
			x.then(s, &p.L[i])
		}
	}
	if p.Rep.Name == "" {
		all()
	} else if base, count, e := x.bounds(p.Rep); e == api.OK {
		x.repeat(p.Rep.Name, base, count, all)
	} else {
		x.counted(s, p)
	}
	if len(*s) == before {
		x.skip(s, p)
	}
}

func dyadic(left api.KExpr, o api.Operator, right api.KExpr) api.KExpr {
	return api.KExpr{Kind: api.KxDyadic, Oper: o, L: []api.KExpr{left, right}}
}

// counted adds a replicated SEQ as a loop.
func (x *elaborator) counted(s *sequence, p *api.Process) {
	bounds := []api.KExpr{x.value(p.Rep.Base), x.value(p.Rep.Count)}
	i, n := x.newVar(api.TyInt, 0), x.newVar(api.TyInt, 0)
	s.add(assignment([]api.KPlace{{V: i}, {V: n}}, bounds))
	x.names[p.Rep.Name] = valued(p.Rep.Name, api.Type{Kind: api.TyInt}, i)
	var body sequence
	x.then(&body, &p.L[0])
	next := []api.KExpr{dyadic(variable(i), api.OperPlus, number(1)), dyadic(variable(n), api.OperMinus, number(1))}
	body.add(assignment([]api.KPlace{{V: i}, {V: n}}, next))
	s.add(loop(dyadic(variable(n), api.OperGt, number(0)), body.process()))
}
