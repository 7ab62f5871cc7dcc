package kernel_test

import (
	"slices"

	"transputer/alias"
	"transputer/api"
	"transputer/fold"
	"transputer/kernel"
	"transputer/scope"
	"transputer/syntax"
	"transputer/typing"
)

// The elaboration, once more, as the chapter's sections say it: names keep what they are, and each scope is a list of its own.

// thing is what a name stands for.
type thing struct {
	kind  api.SpecKind // as what it is in an environment
	t     api.Type
	n     *int32       // of a number
	v     int          // the variable
	index []api.KExpr  // of an element of it
	first int          // the first one of the channels
	spec  api.Spec     // of a PROTOCOL or a PROC
	at    *surrounding // where its type, or its PROC, was written
}

// surrounding is a name with what it stands for, and what is around it.
type surrounding struct {
	name  string
	is    thing
	outer *surrounding
}

func (s *surrounding) find(name string) thing {
	for s.name != name {
		s = s.outer
	}
	return s.is
}

func (s *surrounding) with(name string, is thing) *surrounding { return &surrounding{name, is, s} }

// env returns the environment that contains all names.
func (s *surrounding) env() (l []api.Spec) {
	for ; s != nil; s = s.outer {
		spec := api.Spec{Kind: s.is.kind, Type: s.is.t, Names: []string{s.name}}
		if s.is.n != nil {
			spec.E = api.Expr{Kind: api.ExNumber, N: *s.is.n}
		}
		if s.is.kind == api.SpProto || s.is.kind == api.SpProc {
			spec = s.is.spec
		}
		l = append(l, spec)
	}
	slices.Reverse(l)
	return l
}

func (s *surrounding) constant(e api.Expr) (int32, bool) {
	v, f := fold.Const(e, s.env())
	return v, f == api.OK
}

func (s *surrounding) channel(e api.Expr) int {
	c := s.find(e.S)
	if e.Kind == api.ExName {
		return c.first
	}
	i, ok := s.constant(e.L[0])
	if !ok || i < 0 || i >= int32(c.t.Dim) {
		panic(api.ErrKernel)
	}
	return c.first + int(i)
}

func (s *surrounding) protocol(e api.Expr) api.Proto {
	c := s.find(e.S)
	if c.t.Proto == "" {
		return api.Proto{L: []api.Variant{{Items: []api.TypeKind{c.t.Item}}}}
	}
	return c.at.find(c.t.Proto).spec.Proto
}

func (s *surrounding) expr(e api.Expr) api.KExpr {
	var parts []api.KExpr
	for _, x := range e.L {
		parts = append(parts, s.expr(x))
	}
	switch e.Kind {
	case api.ExName:
		is := s.find(e.S)
		switch {
		case is.n != nil:
			return api.KExpr{Kind: api.KxNumber, N: *is.n}
		case len(is.index) > 0:
			return api.KExpr{Kind: api.KxElem, V: is.v, L: is.index}
		}
		return api.KExpr{Kind: api.KxVar, V: is.v}
	case api.ExIndex:
		return api.KExpr{Kind: api.KxElem, V: s.find(e.S).v, L: parts}
	case api.ExSize:
		return api.KExpr{Kind: api.KxNumber, N: int32(s.find(e.S).t.Dim)}
	case api.ExMonadic, api.ExDyadic:
		return api.KExpr{Kind: map[bool]api.KExprKind{true: api.KxMonadic, false: api.KxDyadic}[len(parts) == 1], Oper: e.Oper, L: parts}
	case api.ExConvert:
		return api.KExpr{Kind: api.KxConvert, To: e.To, L: parts}
	}
	return api.KExpr{Kind: api.KxNumber, N: e.N}
}

func (s *surrounding) place(e api.Expr) api.KPlace {
	x := s.expr(e)
	return api.KPlace{V: x.V, Index: x.L}
}

// flat returns the sequence of processes.
func flat(l ...api.KProc) api.KProc {
	var all []api.KProc
	for _, p := range l {
		if p.Kind == api.KpSeq {
			all = append(all, p.L...)
		} else {
			all = append(all, p)
		}
	}
	switch len(all) {
	case 0:
		return kproc("skip")
	case 1:
		return all[0]
	}
	return api.KProc{Kind: api.KpSeq, L: all}
}

func set(v int, x api.KExpr) api.KProc {
	return api.KProc{Kind: api.KpAssign, To: []api.KPlace{{V: v}}, E: []api.KExpr{x}}
}

func in(c int, item api.TypeKind, to api.KPlace) api.KProc {
	return api.KProc{Kind: api.KpIn, C: c, Item: item, To: []api.KPlace{to}}
}

// maker makes a kernel.
type maker struct {
	k      api.Kernel
	count  int
	became bool // whether a specification has become a process
	high   bool
}

func (m *maker) variable(k api.TypeKind, dim int) int {
	m.k.Vars = append(m.k.Vars, api.Var{Kind: k, Dim: dim})
	return len(m.k.Vars) - 1
}

func (m *maker) inputs(c int, items []api.TypeKind, targets []api.Expr, s *surrounding) (l []api.KProc) {
	for i, x := range targets {
		l = append(l, in(c, items[i], s.place(x)))
	}
	return l
}

// bounds returns base and count of a replicator, and the error if they do not allow that its part is elaborated count times.
func bounds(r api.Rep, s *surrounding) (base, count int32, e api.Errno) {
	base, ok := s.constant(r.Base)
	count, also := s.constant(r.Count)
	switch {
	case !ok || !also:
		e = api.ErrConst
	case count < 0 || count > 16:
		e = api.ErrKernel
	}
	return base, count, e
}

// each calls f for a part without a replicator, or as often as the replicator says.
func each(r api.Rep, s *surrounding, f func(s *surrounding)) {
	if r.Name == "" {
		f(s)
		return
	}
	base, count, e := bounds(r, s)
	if e != api.OK {
		panic(e)
	}
	for i := range count {
		n := base + i
		f(s.with(r.Name, thing{kind: api.SpVal, t: api.Type{Kind: api.TyInt}, n: &n}))
	}
}

func (m *maker) process(p api.Process, s *surrounding) api.KProc {
	m.count++
	if m.count > 2048 {
		panic(api.ErrLong)
	}
	switch p.Kind {
	case api.PrSkip:
		return kproc("skip")
	case api.PrStop:
		return kproc("stop")
	case api.PrAssign:
		q := api.KProc{Kind: api.KpAssign}
		for i := range p.Targets {
			q.To, q.E = append(q.To, s.place(p.Targets[i])), append(q.E, s.expr(p.Exprs[i]))
		}
		return q
	case api.PrInput:
		if s.find(p.Chan.S).t.Kind == api.TyTimer {
			return api.KProc{Kind: api.KpTime, To: []api.KPlace{s.place(p.Targets[0])}}
		}
		return flat(m.inputs(s.channel(p.Chan), s.protocol(p.Chan).L[0].Items, p.Targets, s)...)
	case api.PrAfter:
		return api.KProc{Kind: api.KpAfter, E: []api.KExpr{s.expr(p.Exprs[0])}}
	case api.PrOutput:
		return m.output(p, s)
	case api.PrCaseIn:
		return m.variants(p, s)
	case api.PrCase:
		return m.options(p, s)
	case api.PrAlt, api.PrPriAlt, api.PrIf:
		q := api.KProc{Kind: map[api.ProcKind]api.KProcKind{api.PrAlt: api.KpAlt, api.PrPriAlt: api.KpPriAlt, api.PrIf: api.KpIf}[p.Kind]}
		each(p.Rep, s, func(s *surrounding) {
			for _, g := range p.Guards {
				q.Guards = append(q.Guards, m.guard(g, s))
			}
		})
		return q
	case api.PrWhile:
		return api.KProc{Kind: api.KpWhile, E: []api.KExpr{s.expr(p.Exprs[0])}, L: []api.KProc{m.process(p.L[0], s)}}
	case api.PrCall:
		return m.call(p, s)
	case api.PrSpec:
		q, inner := m.specification(p.Spec, s)
		m.became = m.became || len(q) > 0
		return flat(append(q, m.process(p.L[0], inner))...)
	}
	return m.several(p, s)
}

// several returns what becomes of a process with several ones in L.
func (m *maker) several(p api.Process, s *surrounding) api.KProc {
	var l []api.KProc
	part := func(s *surrounding) {
		for _, q := range p.L {
			l = append(l, m.process(q, s))
		}
	}
	switch p.Kind {
	case api.PrSeq:
		if p.Rep.Name != "" {
			if _, _, e := bounds(p.Rep, s); e != api.OK {
				return m.loop(p, s)
			}
		}
		each(p.Rep, s, part)
		return flat(l...)
	case api.PrPriPar:
		if m.high {
			panic(api.ErrKernel)
		}
		m.high = true
		first := m.process(p.L[0], s)
		m.high = false
		return api.KProc{Kind: api.KpPriPar, L: []api.KProc{first, m.process(p.L[1], s)}}
	case api.PrPlaced:
		numbers := map[int]bool{}
		for _, n := range p.Procs {
			numbers[n] = true
		}
		if m.became || len(numbers) < len(p.Procs) {
			panic(api.ErrKernel)
		}
		m.k.Procs = slices.Clone(p.Procs)
	}
	each(p.Rep, s, part)
	return api.KProc{Kind: api.KpPar, L: l}
}

func (m *maker) loop(p api.Process, s *surrounding) api.KProc {
	i := m.variable(api.TyInt, 0)
	n := m.variable(api.TyInt, 0)
	iv, nv := api.KExpr{Kind: api.KxVar, V: i}, api.KExpr{Kind: api.KxVar, V: n}
	both := func(x, y api.KExpr) api.KProc {
		return api.KProc{Kind: api.KpAssign, To: []api.KPlace{{V: i}, {V: n}}, E: []api.KExpr{x, y}}
	}
	body := m.process(p.L[0], s.with(p.Rep.Name, thing{kind: api.SpVal, t: api.Type{Kind: api.TyInt}, v: i}))
	body = flat(body, both(binary(api.OperPlus, iv, kexpr("1")), binary(api.OperMinus, nv, kexpr("1"))))
	return flat(both(s.expr(p.Rep.Base), s.expr(p.Rep.Count)), api.KProc{Kind: api.KpWhile, E: []api.KExpr{binary(api.OperGt, nv, kexpr("0"))}, L: []api.KProc{body}})
}

func (m *maker) output(p api.Process, s *surrounding) api.KProc {
	c, proto := s.channel(p.Chan), s.protocol(p.Chan)
	var l []api.KProc
	sent, items := p.Exprs, proto.L[0].Items
	out := func(item api.TypeKind, x api.KExpr) {
		l = append(l, api.KProc{Kind: api.KpOut, C: c, Item: item, E: []api.KExpr{x}})
	}
	if proto.Cases {
		for n, v := range proto.L {
			if v.Tag == sent[0].S {
				out(api.TyByte, api.KExpr{Kind: api.KxNumber, N: int32(n)})
				items = v.Items
			}
		}
		sent = sent[1:]
	}
	for i, x := range sent {
		out(items[i], s.expr(x))
	}
	return flat(l...)
}

func equals(v int, n int32) api.KExpr {
	return binary(api.OperEq, api.KExpr{Kind: api.KxVar, V: v}, api.KExpr{Kind: api.KxNumber, N: n})
}

func (m *maker) variants(p api.Process, s *surrounding) api.KProc {
	c, proto := s.channel(p.Chan), s.protocol(p.Chan)
	b := m.variable(api.TyByte, 0)
	choice := api.KProc{Kind: api.KpIf}
	for _, g := range p.Guards {
		n := slices.IndexFunc(proto.L, func(v api.Variant) bool { return v.Tag == g.Name })
		body := append(m.inputs(c, proto.L[n].Items, g.Targets, s), m.process(g.Body[0], s))
		choice.Guards = append(choice.Guards, api.KGuard{Kind: api.GuIf, Cond: equals(b, int32(n)), Body: []api.KProc{flat(body...)}})
	}
	return flat(in(c, api.TyByte, api.KPlace{V: b}), choice)
}

func (m *maker) options(p api.Process, s *surrounding) api.KProc {
	t, _ := typing.Of(p.Exprs[0], s.env())
	v := m.variable(t.Kind, 0)
	choice := api.KProc{Kind: api.KpIf}
	var earlier []int32
	var last []api.KGuard
	for _, g := range p.Guards {
		cond := kexpr("1")
		for i, e := range g.Values {
			n, ok := s.constant(e)
			if !ok {
				panic(api.ErrConst)
			}
			if slices.Contains(earlier, n) {
				panic(api.ErrKernel)
			}
			earlier = append(earlier, n)
			if i > 0 {
				cond = binary(api.OperOr, cond, equals(v, n))
			} else {
				cond = equals(v, n)
			}
		}
		guard := []api.KGuard{{Kind: api.GuIf, Cond: cond, Body: []api.KProc{m.process(g.Body[0], s)}}}
		if g.Kind == api.GuElse {
			last = guard
		} else {
			choice.Guards = append(choice.Guards, guard...)
		}
	}
	choice.Guards = append(choice.Guards, last...)
	return flat(set(v, s.expr(p.Exprs[0])), choice)
}

func (m *maker) guard(g api.Guard, s *surrounding) api.KGuard {
	k := api.KGuard{Kind: g.Kind, Cond: kexpr("1")}
	if g.Cond.Kind != api.NoExpr {
		k.Cond = s.expr(g.Cond)
	}
	var body []api.KProc
	if g.Kind == api.GuInput {
		k.C = s.channel(g.Chan)
		l := m.inputs(k.C, s.protocol(g.Chan).L[0].Items, g.Targets, s)
		k.Item, k.To, body = l[0].Item, l[0].To[0], l[1:]
	}
	if g.Kind == api.GuAfter {
		k.Time = s.expr(g.Time)
	}
	k.Body = []api.KProc{flat(append(body, m.process(g.Body[0], s))...)}
	return k
}

// specification returns what a specification becomes, and what is around its process.
func (m *maker) specification(spec api.Spec, s *surrounding) (l []api.KProc, inner *surrounding) {
	inner = s
	name := spec.Names[0]
	switch spec.Kind {
	case api.SpVal:
		q, is := m.value(spec.Type, spec.E, s)
		return q, s.with(name, is)
	case api.SpIs:
		q, is := m.element(spec.Type, spec.E, s)
		return q, s.with(name, is)
	case api.SpProto, api.SpProc:
		return nil, s.with(name, thing{kind: spec.Kind, spec: spec, at: s})
	}
	for _, name := range spec.Names {
		is := thing{kind: api.SpDeclare, t: spec.Type, at: s}
		switch spec.Type.Kind {
		case api.TyChan:
			is.first = len(m.k.Chans)
			m.k.Chans = append(m.k.Chans, make([]api.HostKind, max(spec.Type.Dim, 1))...)
		case api.TyTimer:
		default:
			is.v = m.variable(spec.Type.Kind, spec.Type.Dim)
			l = append(l, api.KProc{Kind: api.KpClear, V: is.v})
		}
		inner = inner.with(name, is)
	}
	return l, inner
}

// value returns what a name stands for that is a value, and what becomes of its specification.
func (m *maker) value(t api.Type, e api.Expr, s *surrounding) ([]api.KProc, thing) {
	if n, ok := s.constant(e); ok {
		return nil, thing{kind: api.SpVal, t: t, n: &n}
	}
	v := m.variable(t.Kind, 0)
	return []api.KProc{set(v, s.expr(e))}, thing{kind: api.SpVal, t: t, v: v}
}

func (m *maker) element(t api.Type, e api.Expr, s *surrounding) ([]api.KProc, thing) {
	of := s.find(e.S)
	is := thing{kind: api.SpDeclare, t: t, v: of.v, index: of.index}
	if e.Kind == api.ExName {
		return nil, is
	}
	if n, ok := s.constant(e.L[0]); ok {
		is.index = []api.KExpr{{Kind: api.KxNumber, N: n}}
		return nil, is
	}
	j := m.variable(api.TyInt, 0)
	is.index = []api.KExpr{{Kind: api.KxVar, V: j}}
	return []api.KProc{set(j, s.expr(e.L[0]))}, is
}

func (m *maker) call(p api.Process, s *surrounding) api.KProc {
	called := s.find(p.Name)
	inner := called.at
	var l []api.KProc
	for i, f := range called.spec.Formals {
		var q []api.KProc
		var is thing
		switch actual := p.Exprs[i]; {
		case f.Val:
			q, is = m.value(f.Type, actual, s)
		case f.Type.Dim == 0 && isKind(f.Type.Kind):
			q, is = m.element(f.Type, actual, s)
		default:
			is = s.find(actual.S)
			is.first, is.t, is.at = s.channel(actual), f.Type, called.at
		}
		l, inner = append(l, q...), inner.with(f.Name, is)
	}
	return flat(append(l, m.process(called.spec.Body[0], inner))...)
}

// elaborateByRules returns the kernel of a process, or the first error of the elaboration.
func elaborateByRules(p api.Process) (k api.Kernel, e api.Errno) {
	defer func() {
		if f, ok := recover().(api.Errno); ok {
			k, e = api.Kernel{}, f
		}
	}()
	hosted := thing{kind: api.SpDeclare, t: api.Type{Kind: api.TyChan, Item: api.TyInt}}
	s := (*surrounding)(nil).with(api.FromHost, hosted)
	hosted.first = 1
	s = s.with(api.ToHost, hosted)
	m := &maker{k: api.Kernel{Chans: []api.HostKind{api.HostIn, api.HostOut}}}
	root := m.process(p, s)
	m.k.Root = root
	return m.k, api.OK
}

// makeByRules returns what Make returns.
func makeByRules(p api.Process) (api.Kernel, api.Errno) {
	if !syntax.May(p) {
		return api.Kernel{}, api.ErrArg
	}
	if _, e := scope.Check(p, []string{"from.host", "to.host"}); e != api.OK {
		return api.Kernel{}, e
	}
	if e := typing.Check(p, typing.Host()); e != api.OK {
		return api.Kernel{}, e
	}
	if _, e := alias.Check(p); e != api.OK {
		return api.Kernel{}, e
	}
	k, e := elaborateByRules(p)
	if e == api.OK && !kernel.May(k) {
		return api.Kernel{}, api.ErrLong
	}
	return k, e
}
