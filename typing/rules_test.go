package typing_test

import (
	"slices"

	"transputer/api"
	"transputer/types"
)

// spot is a specification where it stands.
type spot struct {
	spec   api.Spec
	around spots // what the names in its type may refer to
}

// spots are an environment, or a process's surroundings. The first error of what is checked in it ends the check by a panic.
type spots []*spot

func spotsOf(l []api.Spec) (r spots) {
	for _, s := range l {
		r = r.with(s)
	}
	return r
}

// with returns the environment with a specification added.
func (l spots) with(s api.Spec) spots { return append(slices.Clip(l), &spot{s, l}) }

// found returns the specification of a name, or nil.
func (l spots) found(name string) (last *spot) {
	for _, x := range l {
		if slices.Contains(x.spec.Names, name) {
			last = x
		}
	}
	return last
}

func (l spots) of(name string) *spot {
	x := l.found(name)
	if x == nil {
		panic(api.ErrScope)
	}
	return x
}

func need(is bool) {
	if !is {
		panic(api.ErrTyping)
	}
}

// outcome returns the error with which f ends.
func outcome(f func()) (e api.Errno) {
	defer func() {
		if x, ok := recover().(api.Errno); ok {
			e = x
		}
	}()
	f()
	return api.OK
}

func kind(k api.TypeKind) api.Type { return api.Type{Kind: k} }

func (l spots) nameType(name string) api.Type {
	s := l.of(name).spec
	need(isTyped(s.Kind))
	return s.Type
}

func (l spots) arrayType(name string) api.Type {
	t := l.nameType(name)
	need(t.Dim > 0)
	return t
}

// typ returns the type of an expression by the chapter's table.
func (l spots) typ(x api.Expr) api.Type {
	switch x.Kind {
	case api.ExNumber, api.ExByte, api.ExBool:
		return kind(map[api.ExprKind]api.TypeKind{api.ExNumber: api.TyInt, api.ExByte: api.TyByte, api.ExBool: api.TyBool}[x.Kind])
	case api.ExName:
		return l.nameType(x.S)
	case api.ExIndex:
		t := l.arrayType(x.S)
		need(l.typ(x.L[0]) == kind(api.TyInt))
		return api.Type{Kind: t.Kind, Item: t.Item, Proto: t.Proto}
	case api.ExSize:
		l.arrayType(x.S)
		return kind(api.TyInt)
	case api.ExConvert:
		need(isSimpleType(l.typ(x.L[0])))
		return kind(x.To)
	}
	var operands []api.Type
	for _, y := range x.L {
		operands = append(operands, l.typ(y))
	}
	need(operands[0] == operands[len(operands)-1])
	t, e := operation(x.Oper, operands[0])
	need(e == api.OK)
	return t
}

// target returns the type of a target.
func (l spots) target(x api.Expr) api.Type {
	t := l.typ(x)
	need(isSimpleType(t) && (x.Kind == api.ExName || x.Kind == api.ExIndex))
	k := l.of(x.S).spec.Kind
	need(k == api.SpDeclare || k == api.SpIs)
	return t
}

func (l spots) match(exprs []api.Expr, items []api.TypeKind, typ func(api.Expr) api.Type) {
	for i, x := range exprs {
		need(i < len(items))
		need(typ(x) == kind(items[i]))
	}
	need(len(exprs) == len(items))
}

// protocol returns the protocol of the type of a channel that is written here.
func (l spots) protocol(t api.Type) api.Proto {
	if t.Proto == "" {
		return api.Proto{L: []api.Variant{{Items: []api.TypeKind{t.Item}}}}
	}
	s := l.of(t.Proto).spec
	need(s.Kind == api.SpProto && types.MayProto(s.Proto))
	return s.Proto
}

// channel returns the protocol of a channel.
func (l spots) channel(x api.Expr) api.Proto {
	t := l.typ(x)
	need(t.Kind == api.TyChan && t.Dim == 0)
	return l.of(x.S).around.protocol(t)
}

func (l spots) input(channel api.Expr, targets []api.Expr, timer bool) {
	if l.typ(channel) == kind(api.TyTimer) && timer {
		l.match(targets, []api.TypeKind{api.TyInt}, l.target)
		return
	}
	p := l.channel(channel)
	need(!p.Cases)
	l.match(targets, p.L[0].Items, l.target)
}

func (l spots) output(channel api.Expr, exprs []api.Expr) {
	p := l.channel(channel)
	if !p.Cases {
		l.match(exprs, p.L[0].Items, l.typ)
		return
	}
	need(exprs[0].Kind == api.ExName)
	at := slices.IndexFunc(p.L, func(v api.Variant) bool { return v.Tag == exprs[0].S })
	need(at >= 0)
	l.match(exprs[1:], p.L[at].Items, l.typ)
}

func (l spots) after(timer, time api.Expr) {
	need(l.typ(timer) == kind(api.TyTimer))
	need(l.typ(time) == kind(api.TyInt))
}

func (l spots) variants(p *api.Process) {
	proto := l.channel(p.Chan)
	need(proto.Cases)
	var tags []string
	for _, g := range p.Guards {
		at := slices.IndexFunc(proto.L, func(v api.Variant) bool { return v.Tag == g.Name })
		need(at >= 0 && !slices.Contains(tags, g.Name))
		tags = append(tags, g.Name)
		l.match(g.Targets, proto.L[at].Items, l.target)
		l.process(&g.Body[0])
	}
}

// replicated returns what is around the parts of p.
func (l spots) replicated(p *api.Process) spots {
	if p.Rep.Name == "" {
		return l
	}
	need(l.typ(p.Rep.Base) == kind(api.TyInt))
	need(l.typ(p.Rep.Count) == kind(api.TyInt))
	return l.with(api.Spec{Kind: api.SpVal, Type: kind(api.TyInt), Names: []string{p.Rep.Name}})
}

func (l spots) choice(g *api.Guard) {
	if g.Cond.Kind != api.NoExpr {
		need(l.typ(g.Cond) == kind(api.TyBool))
	}
	if g.Kind == api.GuInput {
		l.input(g.Chan, g.Targets, false)
	}
	if g.Kind == api.GuAfter {
		l.after(g.Chan, g.Time)
	}
	l.process(&g.Body[0])
}

func (l spots) selection(p *api.Process) {
	t := l.typ(p.Exprs[0])
	need(t == kind(api.TyInt) || t == kind(api.TyByte))
	for i, g := range p.Guards {
		need(g.Kind != api.GuElse || !slices.ContainsFunc(p.Guards[:i], func(g api.Guard) bool { return g.Kind == api.GuElse }))
		for _, x := range g.Values {
			need(l.typ(x) == t)
		}
		l.process(&g.Body[0])
	}
}

func (l spots) call(p *api.Process) {
	q := l.of(p.Name)
	need(q.spec.Kind == api.SpProc && len(q.spec.Formals) == len(p.Exprs))
	for i, f := range q.spec.Formals {
		x := p.Exprs[i]
		switch {
		case f.Val:
			need(l.typ(x) == f.Type)
		case isSimpleType(f.Type):
			need(l.target(x) == f.Type)
		default:
			need(l.typ(x) == f.Type)
			need(f.Type.Proto == "" || q.around.found(f.Type.Proto) == l.of(x.S).around.found(f.Type.Proto))
		}
	}
}

// specification checks a specification and returns what is around the process behind it.
func (l spots) specification(s api.Spec) spots {
	switch s.Kind {
	case api.SpDeclare:
		if s.Type.Kind == api.TyChan {
			l.protocol(s.Type)
		}
	case api.SpVal:
		need(l.typ(s.E) == s.Type)
	case api.SpIs:
		need(l.target(s.E) == s.Type)
	case api.SpProc:
		inside := l
		for _, f := range s.Formals {
			if f.Type.Kind == api.TyChan {
				l.protocol(f.Type)
			}
			x := api.Spec{Kind: api.SpDeclare, Type: f.Type, Names: []string{f.Name}}
			if f.Val {
				x.Kind = api.SpVal
			}
			inside = append(slices.Clip(inside), &spot{x, l})
		}
		inside.process(&s.Body[0])
	}
	return l.with(s)
}

// process checks a process by the chapter's table.
func (l spots) process(p *api.Process) {
	switch p.Kind {
	case api.PrAssign:
		for i := range min(len(p.Targets), len(p.Exprs)) {
			t := l.target(p.Targets[i])
			need(l.typ(p.Exprs[i]) == t)
		}
		need(len(p.Targets) == len(p.Exprs))
	case api.PrInput:
		l.input(p.Chan, p.Targets, true)
	case api.PrOutput:
		l.output(p.Chan, p.Exprs)
	case api.PrAfter:
		l.after(p.Chan, p.Exprs[0])
	case api.PrCaseIn:
		l.variants(p)
	case api.PrCase:
		l.selection(p)
	case api.PrCall:
		l.call(p)
	case api.PrWhile:
		need(l.typ(p.Exprs[0]) == kind(api.TyBool))
		l.process(&p.L[0])
	case api.PrSpec:
		l.specification(p.Spec).process(&p.L[0])
	case api.PrIf, api.PrAlt, api.PrPriAlt:
		inside := l.replicated(p)
		for i := range p.Guards {
			inside.choice(&p.Guards[i])
		}
	default:
		inside := l.replicated(p)
		for i := range p.L {
			inside.process(&p.L[i])
		}
	}
}

// ofByRules returns what Of should return for a valid expression.
func ofByRules(x api.Expr, l []api.Spec) (t api.Type, e api.Errno) {
	e = outcome(func() { t = spotsOf(l).typ(x) })
	return t, e
}

// checkByRules returns what Check should return for a valid process.
func checkByRules(p api.Process, l []api.Spec) api.Errno {
	return outcome(func() { spotsOf(l).process(&p) })
}
