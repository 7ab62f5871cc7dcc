package typing

import (
	"transputer/api"
	"transputer/types"
)

// checker checks valid processes in an environment.
type checker struct {
	environment
	checks map[api.ProcKind]func(p *api.Process) api.Errno // by the kinds of processes
}

func checkerIn(env []api.Spec) *checker {
	c := &checker{environment: environmentOf(env, func(string) bool { return true })}
	c.checks = map[api.ProcKind]func(p *api.Process) api.Errno{
		api.PrSkip:   c.nothing,
		api.PrStop:   c.nothing,
		api.PrAssign: c.assignment,
		api.PrInput:  c.input,
		api.PrOutput: c.output,
		api.PrAfter:  c.delay,
		api.PrCaseIn: c.variants,
		api.PrSeq:    c.construct,
		api.PrPar:    c.construct,
		api.PrPriPar: c.construct,
		api.PrPlaced: c.construct,
		api.PrAlt:    c.choice,
		api.PrPriAlt: c.choice,
		api.PrIf:     c.choice,
		api.PrCase:   c.selection,
		api.PrWhile:  c.loop,
		api.PrCall:   c.instance,
		api.PrSpec:   c.block,
	}
	return c
}

func (c *checker) process(p *api.Process) api.Errno { return c.checks[p.Kind](p) }

func (c *checker) processes(l []api.Process) api.Errno {
	for i := range l {
		if e := c.process(&l[i]); e != api.OK {
			return e
		}
	}
	return api.OK
}

// guards checks one guard after the other, with the process behind it.
func (c *checker) guards(l []api.Guard, check func(g *api.Guard) api.Errno) api.Errno {
	for i := range l {
		if e := check(&l[i]); e != api.OK {
			return e
		}
		if e := c.processes(l[i].Body); e != api.OK {
			return e
		}
	}
	return api.OK
}

func (c *checker) nothing(*api.Process) api.Errno { return api.OK }

func (c *checker) assignment(p *api.Process) api.Errno {
	for i := range min(len(p.Targets), len(p.Exprs)) {
		t, e := c.typeOfTarget(p.Targets[i])
		if e != api.OK {
			return e
		}
		if e := c.has(p.Exprs[i], t); e != api.OK {
			return e
		}
	}
	return require(len(p.Targets) == len(p.Exprs))
}

// channel returns the protocol of a name or an element that must be a channel.
func (c *checker) channel(x api.Expr) (api.Proto, api.Errno) {
	t, e := c.typeOf(x)
	if e != api.OK {
		return api.Proto{}, e
	}
	if t.Kind != api.TyChan || t.Dim != 0 {
		return api.Proto{}, api.ErrTyping
	}
	y, _ := c.specified(x.S)
	return c.protocol(t, y.around)
}

// receive checks an input from a channel.
func (c *checker) receive(from api.Expr, targets []api.Expr) api.Errno {
	proto, e := c.channel(from)
	if e != api.OK {
		return e
	}
	if proto.Cases {
		return api.ErrTyping
	}
	return match(targets, proto.L[0].Items, c.typeOfTarget)
}

func (c *checker) input(p *api.Process) api.Errno {
	t, e := c.typeOf(p.Chan)
	if e != api.OK {
		return e
	}
	if isTimer(t) {
		return match(p.Targets, []api.TypeKind{api.TyInt}, c.typeOfTarget)
	}
	return c.receive(p.Chan, p.Targets)
}

func (c *checker) output(p *api.Process) api.Errno {
	proto, e := c.channel(p.Chan)
	if e != api.OK {
		return e
	}
	if !proto.Cases {
		return match(p.Exprs, proto.L[0].Items, c.typeOf)
	}
	tag := p.Exprs[0]
	items, _, ok := types.Find(proto, tag.S)
	if !ok || tag.Kind != api.ExName {
		return api.ErrTyping
	}
	return match(p.Exprs[1:], items, c.typeOf)
}

// wait checks a timer and the time that is waited for.
func (c *checker) wait(timer, time api.Expr) api.Errno {
	if e := c.has(timer, of(api.TyTimer)); e != api.OK {
		return e
	}
	return c.has(time, of(api.TyInt))
}

func (c *checker) delay(p *api.Process) api.Errno { return c.wait(p.Chan, p.Exprs[0]) }

func (c *checker) variants(p *api.Process) api.Errno {
	proto, e := c.channel(p.Chan)
	if e != api.OK {
		return e
	}
	if !proto.Cases {
		return api.ErrTyping
	}
	var passed [api.MaxTags]bool
	return c.guards(p.Guards, func(g *api.Guard) api.Errno {
		items, n, ok := types.Find(proto, g.Name)
		if !ok || passed[n] {
			return api.ErrTyping
		}
		passed[n] = true
		return match(g.Targets, items, c.typeOfTarget)
	})
}

// replicated checks a replicator, if there is one, and what is inside.
func (c *checker) replicated(r *api.Rep, inside func() api.Errno) api.Errno {
	if r.Name == "" {
		return inside()
	}
	for _, x := range []api.Expr{r.Base, r.Count} {
		if e := c.has(x, of(api.TyInt)); e != api.OK {
			return e
		}
	}
	return c.within([]api.Spec{{Kind: api.SpVal, Type: of(api.TyInt), Names: []string{r.Name}}}, inside)
}

// within checks what is inside of specifications, none of which is around another one.
func (c *checker) within(l []api.Spec, inside func() api.Errno) api.Errno {
	around := c.size()
	for i := range l {
		c.enter(entry{spec: &l[i], around: around})
	}
	e := inside()
	for range l {
		c.leave()
	}
	return e
}

func (c *checker) construct(p *api.Process) api.Errno {
	return c.replicated(&p.Rep, func() api.Errno { return c.processes(p.L) })
}

func (c *checker) choice(p *api.Process) api.Errno {
	return c.replicated(&p.Rep, func() api.Errno { return c.guards(p.Guards, c.condition) })
}

// condition checks a guard of an IF or an ALT.
func (c *checker) condition(g *api.Guard) api.Errno {
	if g.Cond.Kind != api.NoExpr {
		if e := c.has(g.Cond, of(api.TyBool)); e != api.OK {
			return e
		}
	}
	switch g.Kind {
	case api.GuInput:
		return c.receive(g.Chan, g.Targets)
	case api.GuAfter:
		return c.wait(g.Chan, g.Time)
	}
	return api.OK
}

func (c *checker) selection(p *api.Process) api.Errno {
	t, e := c.typeOf(p.Exprs[0])
	if e != api.OK {
		return e
	}
	if !isInt(t) && !isByte(t) {
		return api.ErrTyping
	}
	others := 0
	return c.guards(p.Guards, func(g *api.Guard) api.Errno {
		if g.Kind == api.GuElse {
			others++
			return require(others == 1)
		}
		for _, x := range g.Values {
			if e := c.has(x, t); e != api.OK {
				return e
			}
		}
		return api.OK
	})
}

func (c *checker) loop(p *api.Process) api.Errno {
	if e := c.has(p.Exprs[0], of(api.TyBool)); e != api.OK {
		return e
	}
	return c.processes(p.L)
}

func (c *checker) block(p *api.Process) api.Errno {
	if e := c.specification(&p.Spec); e != api.OK {
		return e
	}
	return c.within([]api.Spec{p.Spec}, func() api.Errno { return c.processes(p.L) })
}
