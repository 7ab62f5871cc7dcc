package kernel

import "transputer/api"

// specForms returns what is done with the specifications of each kind.
func (x *elaborator) specForms() map[api.SpecKind]func(s *sequence, spec *api.Spec) {
	return map[api.SpecKind]func(s *sequence, spec *api.Spec){
		api.SpDeclare: x.declare,
		api.SpVal:     x.val,
		api.SpIs:      x.abbreviation,
		api.SpProto:   x.keep,
		api.SpProc:    x.keep,
	}
}

func (x *elaborator) specified(s *sequence, p *api.Process) {
	x.specs[p.Spec.Kind](s, &p.Spec)
	x.then(s, &p.L[0])
}

func (x *elaborator) declare(s *sequence, spec *api.Spec) {
	t := spec.Type
	for _, name := range spec.Names {
		m := meaning{spec: declared(name, t), first: len(x.chans)}
		switch {
		case t.Kind == api.TyChan:
			x.chans = append(x.chans, make([]api.HostKind, max(1, t.Dim))...)
		case isValue(t.Kind):
			m.value = variable(x.newVar(t.Kind, t.Dim))
			s.add(api.KProc{Kind: api.KpClear, V: m.value.V})
		}
		x.names[name] = m
	}
}

// keep remembers a PROTOCOL or a PROC until it is needed.
func (x *elaborator) keep(s *sequence, spec *api.Spec) {
	x.names[spec.Names[0]] = meaning{spec: *spec}
}

func (x *elaborator) val(s *sequence, spec *api.Spec) {
	x.valueOf(s, spec.Names[0], spec.Type, spec.E)
}

// valueOf lets a name stand for the value of an expression.
func (x *elaborator) valueOf(s *sequence, name string, t api.Type, e api.Expr) {
	if n, ok := x.constant(e); ok {
		x.names[name] = numbered(name, t, n)
		return
	}
	x.names[name] = valued(name, t, x.newValue(s, t.Kind, x.value(e)))
}

func (x *elaborator) abbreviation(s *sequence, spec *api.Spec) {
	x.element(s, spec.Names[0], spec.Type, spec.E)
}

// element lets a name stand for a variable, an array or an element of one. An index that is no constant is evaluated here alone.
func (x *elaborator) element(s *sequence, name string, t api.Type, e api.Expr) {
	value := x.names[e.S].value
	if e.Kind == api.ExIndex {
		index, ok := x.constant(e.L[0])
		value = api.KExpr{Kind: api.KxElem, V: value.V, L: []api.KExpr{number(index)}}
		if !ok {
			value.L[0] = variable(x.newValue(s, api.TyInt, x.value(e.L[0])))
		}
	}
	x.names[name] = meaning{spec: declared(name, t), value: value}
}

// call adds what the formals of a PROC become, and its body.
func (x *elaborator) call(s *sequence, p *api.Process) {
	proc := x.names[p.Name].spec
	for i, f := range proc.Formals {
		x.formal(s, f, p.Exprs[i])
	}
	x.then(s, &proc.Body[0])
}

// formal lets the name of a formal stand for what its actual says.
func (x *elaborator) formal(s *sequence, f api.Formal, actual api.Expr) {
	switch {
	case f.Val:
		x.valueOf(s, f.Name, f.Type, actual)
	case isValue(f.Type.Kind):
		x.element(s, f.Name, f.Type, actual)
	default:
		m := x.names[actual.S]
		m.spec, m.first = declared(f.Name, f.Type), x.channel(actual)
		x.names[f.Name] = m
	}
}
