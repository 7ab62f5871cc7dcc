package alias_test

import (
	"slices"

	"transputer/api"
	"transputer/expr"
	"transputer/scope"
)

// reader knows the chapter's rules for one process, and looks for everything anew each time.
type reader struct {
	q     api.Process // after Unique
	specs map[string]api.Spec
	known []string // the names that are declared or free
	free  []string
}

func readerOf(p api.Process) (r reader, e api.Errno) {
	r.q, e = scope.Unique(p)
	if e != api.OK {
		return r, e
	}
	r.free, _ = scope.Free(p)
	r.specs = map[string]api.Spec{}
	r.known = slices.Clone(r.free)
	for _, x := range processesIn(r.q) {
		for _, name := range append(slices.Clone(x.Spec.Names), x.Rep.Name) {
			r.specs[name] = x.Spec
			r.known = append(r.known, name)
		}
		for _, f := range x.Spec.Formals {
			r.known = append(r.known, f.Name)
		}
	}
	return r, api.OK
}

// processesIn returns p and all processes in it.
func processesIn(p api.Process) []api.Process {
	l := []api.Process{p}
	for _, x := range inOrder(p) {
		l = append(l, processesIn(x)...)
	}
	return l
}

// inOrder returns the processes right in p.
func inOrder(p api.Process) []api.Process {
	l := slices.Clone(p.Spec.Body)
	for _, g := range p.Guards {
		l = append(l, g.Body...)
	}
	return append(l, p.L...)
}

func (r reader) base(name string) string {
	for r.specs[name].Kind == api.SpIs {
		name = r.specs[name].E.S
	}
	return name
}

// bases returns the bases of names.
func (r reader) bases(names []string) (l []string) {
	for _, name := range names {
		l = append(l, r.base(name))
	}
	return l
}

// procedure returns the specification of the procedure that p calls.
func (r reader) procedure(p api.Process) (api.Spec, bool) {
	s := r.specs[p.Name]
	return s, p.Kind == api.PrCall && s.Kind == api.SpProc
}

// bodies returns all processes in p and in the bodies of the procedures that are called in it.
func (r reader) bodies(p api.Process) []api.Process {
	var called []string
	l := processesIn(p)
	for i := 0; i < len(l); i++ {
		s, ok := r.procedure(l[i])
		if ok && !slices.Contains(called, s.Names[0]) {
			called = append(called, s.Names[0])
			l = append(l, processesIn(s.Body[0])...)
		}
	}
	return l
}

// occurring returns the names that occur in p.
func (r reader) occurring(p api.Process) (names []string) {
	for _, x := range r.bodies(p) {
		l := slices.Concat([]api.Expr{x.Chan, x.Rep.Base, x.Rep.Count, x.Spec.E}, x.Targets, x.Exprs)
		if x.Kind == api.PrOutput && x.Exprs[0].Kind == api.ExName && !slices.Contains(r.known, x.Exprs[0].S) {
			l = append([]api.Expr{x.Chan}, x.Exprs[1:]...)
		}
		for _, g := range x.Guards {
			l = slices.Concat(l, []api.Expr{g.Cond, g.Chan, g.Time}, g.Targets, g.Values)
		}
		for _, e := range l {
			names = append(names, expr.Names(e)...)
		}
	}
	return names
}

func isElement(x api.Expr) bool { return x.Kind == api.ExName || x.Kind == api.ExIndex }

// written returns the names that are written in p.
func (r reader) written(p api.Process) (names []string) {
	for _, x := range r.bodies(p) {
		l := slices.Clone(x.Targets)
		for _, g := range x.Guards {
			l = append(l, g.Targets...)
		}
		s, ok := r.procedure(x)
		for i, e := range x.Exprs {
			if x.Kind != api.PrCall || !isElement(e) {
				continue
			}
			if !ok || i < len(s.Formals) && !s.Formals[i].Val && slices.Contains([]api.TypeKind{api.TyInt, api.TyByte, api.TyBool}, s.Formals[i].Type.Kind) {
				l = append(l, e)
			}
		}
		for _, e := range l {
			names = append(names, r.base(e.S))
		}
	}
	return names
}

// namesIn returns the bases of the names in expressions.
func (r reader) namesIn(l ...api.Expr) (names []string) {
	for _, x := range l {
		names = append(names, r.bases(expr.Names(x))...)
	}
	return names
}

func meet(a, b []string) bool {
	return slices.ContainsFunc(a, func(name string) bool { return slices.Contains(b, name) })
}

// repeated returns the index of the first of the targets whose variable is that of one before it, or -1.
func (r reader) repeated(targets []api.Expr) int {
	var before []string
	for i, x := range targets {
		if slices.Contains(before, r.base(x.S)) {
			return i
		}
		before = append(before, r.base(x.S))
	}
	return -1
}

// breaksCall tells whether rule 3 is broken by q itself.
func (r reader) breaksCall(q api.Process) bool {
	s, ok := r.procedure(q)
	if !ok {
		return false
	}
	var variables, values []string
	for i, x := range q.Exprs {
		switch {
		case i >= len(s.Formals):
		case s.Formals[i].Val:
			values = append(values, r.namesIn(x)...)
		case isElement(x):
			variables = append(variables, r.base(x.S))
		}
	}
	slices.Sort(variables)
	return len(slices.Compact(slices.Clone(variables))) < len(variables) ||
		meet(variables, r.bases(r.occurring(s.Body[0]))) || meet(values, variables) || meet(values, r.written(s.Body[0]))
}

// broken returns the name, as p has it, for which a rule is broken by q itself, which is p after Unique.
func (r reader) broken(p, q api.Process) string {
	s := q.Spec
	switch {
	case s.Kind == api.SpIs && (slices.Contains(r.occurring(q.L[0]), s.E.S) || s.E.Kind == api.ExIndex && meet(r.namesIn(s.E.L[0]), r.written(q.L[0]))):
		return p.Spec.Names[0]
	case s.Kind == api.SpVal && meet(r.namesIn(s.E), r.written(q.L[0])):
		return p.Spec.Names[0]
	case r.breaksCall(q):
		return p.Name
	}
	if i := r.repeated(q.Targets); i >= 0 {
		return p.Targets[i].S
	}
	return ""
}

// first returns the name of the first broken rule in q, as p has it.
func (r reader) first(p, q api.Process) string {
	if name := r.broken(p, q); name != "" {
		return name
	}
	for i := range q.Spec.Body {
		if name := r.first(p.Spec.Body[i], q.Spec.Body[i]); name != "" {
			return name
		}
	}
	for i, g := range q.Guards {
		if k := r.repeated(g.Targets); k >= 0 {
			return p.Guards[i].Targets[k].S
		}
		if name := r.first(p.Guards[i].Body[0], g.Body[0]); name != "" {
			return name
		}
	}
	for i := range q.L {
		if name := r.first(p.L[i], q.L[i]); name != "" {
			return name
		}
	}
	return ""
}

func checkByRules(p api.Process) (string, api.Errno) {
	r, e := readerOf(p)
	if e != api.OK {
		return "", e
	}
	name := r.first(p, r.q)
	if name == "" {
		return "", api.OK
	}
	return name, api.ErrAlias
}

// readsByRules and writesByRules return the free names that occur in p, and that are written in it.
func readsByRules(p api.Process) []string { return freeAmong(p, reader.occurring) }

func writesByRules(p api.Process) []string { return freeAmong(p, reader.written) }

func freeAmong(p api.Process, of func(r reader, p api.Process) []string) []string {
	r, e := readerOf(p)
	if e != api.OK {
		return nil
	}
	l := slices.DeleteFunc(of(r, r.q), func(name string) bool { return !slices.Contains(r.free, name) })
	slices.Sort(l)
	return slices.Compact(l)
}
