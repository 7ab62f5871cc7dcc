package typing

import "transputer/api"

// instance checks a call of a PROC.
func (c *checker) instance(p *api.Process) api.Errno {
	x, ok := c.specified(p.Name)
	if !ok {
		return api.ErrScope
	}
	if x.spec.Kind != api.SpProc || len(x.spec.Formals) != len(p.Exprs) {
		return api.ErrTyping
	}
	for i, f := range x.spec.Formals {
		if e := c.actual(p.Exprs[i], f, x.around); e != api.OK {
			return e
		}
	}
	return api.OK
}

// actual checks what stands for a formal of a PROC that so many specifications are around.
func (c *checker) actual(x api.Expr, f api.Formal, around int) api.Errno {
	if !f.Val && isSimple(f.Type) {
		return c.isTarget(x, f.Type)
	}
	if e := c.has(x, f.Type); e != api.OK {
		return e
	}
	if f.Val || f.Type.Proto == "" {
		return api.OK
	}
	// Names and elements alone have a type that is not simple.
	y, _ := c.specified(x.S)
	return require(c.find(f.Type.Proto, around) == c.find(f.Type.Proto, y.around))
}

// carried checks the protocol of a type, if that is the type of a channel, which all specifications are around.
func (c *checker) carried(t api.Type) api.Errno {
	if t.Kind != api.TyChan {
		return api.OK
	}
	_, e := c.protocol(t, c.size())
	return e
}

// specification checks a valid specification, in which the types of values and of abbreviations are simple.
func (c *checker) specification(s *api.Spec) api.Errno {
	switch s.Kind {
	case api.SpDeclare:
		return c.carried(s.Type)
	case api.SpVal:
		return c.has(s.E, s.Type)
	case api.SpIs:
		return c.isTarget(s.E, s.Type)
	case api.SpProc:
		return c.procedure(s)
	}
	return api.OK
}

func (c *checker) procedure(s *api.Spec) api.Errno {
	var l []api.Spec
	for _, f := range s.Formals {
		if e := c.carried(f.Type); e != api.OK {
			return e
		}
		l = append(l, specOf(f))
	}
	return c.within(l, func() api.Errno { return c.processes(s.Body) })
}

// specOf returns what specifies the name of a formal in the body of its PROC.
func specOf(f api.Formal) api.Spec {
	kind := api.SpDeclare
	if f.Val {
		kind = api.SpVal
	}
	return api.Spec{Kind: kind, Type: f.Type, Names: []string{f.Name}}
}
