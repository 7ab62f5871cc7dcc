package scope_test

import (
	"fmt"
	"maps"
	"slices"

	"transputer/api"
)

// mention is a place in a process at which a name is declared or used.
type mention struct {
	at       *string
	declares bool
	twice    bool     // of a declaration: an equal name stands in front of it in the same list
	alone    bool     // of a declaration: by a SpDeclare of one name
	refers   *mention // of a use: the declaration
	typ      api.Type // of a declaration by a SpDeclare or a formal
	proto    api.Proto
	around   *scopes // of a declaration: what is declared where it stands
}

// scopes is what is in scope, the innermost declaration first. A list is never changed, so that each place may keep its own.
type scopes struct {
	first *mention
	rest  *scopes
}

func (s *scopes) with(l ...*mention) *scopes {
	for _, m := range l {
		s = &scopes{m, s}
	}
	return s
}

// find returns the declaration that a name refers to, or nil.
func (s *scopes) find(name string) *mention {
	for ; s != nil; s = s.rest {
		if *s.first.at == name {
			return s.first
		}
	}
	return nil
}

// reader finds the mentions of a process in the order of occurrence, as the chapter's tables and lists have them, and all tags.
type reader struct {
	mentions []*mention
	tags     map[string]bool
	sent     int // the tags of outputs
}

func readerOf(p *api.Process) *reader {
	r := &reader{tags: map[string]bool{}}
	r.process(p, nil)
	return r
}

func (r *reader) declare(at *string, t api.Type, around *scopes) *mention {
	m := &mention{at: at, declares: true, typ: t, around: around}
	r.mentions = append(r.mentions, m)
	return m
}

func (r *reader) use(at *string, around *scopes) {
	if *at != "" {
		r.mentions = append(r.mentions, &mention{at: at, refers: around.find(*at)})
	}
}

func (r *reader) exprs(around *scopes, l ...*api.Expr) {
	for _, x := range l {
		r.use(&x.S, around)
		r.exprs(around, pointers(x.L)...)
	}
}

func pointers[T any](l []T) (r []*T) {
	for i := range l {
		r = append(r, &l[i])
	}
	return r
}

// isTag tells whether the first expression of an output is its tag.
func isTag(p *api.Process, around *scopes) bool {
	if p.Kind != api.PrOutput || p.Exprs[0].Kind != api.ExName {
		return false
	}
	channel := around.find(p.Chan.S)
	if channel == nil || channel.typ.Kind != api.TyChan || channel.typ.Proto == "" {
		return false
	}
	protocol := channel.around.find(channel.typ.Proto)
	return protocol != nil && protocol.proto.Cases &&
		slices.ContainsFunc(protocol.proto.L, func(v api.Variant) bool { return v.Tag == p.Exprs[0].S })
}

func (r *reader) process(p *api.Process, around *scopes) {
	inner := around
	r.use(&p.Name, around)
	r.exprs(around, &p.Chan)
	r.exprs(around, pointers(p.Targets)...)
	if isTag(p, around) {
		r.sent++
		r.exprs(around, pointers(p.Exprs[1:])...)
	} else {
		r.exprs(around, pointers(p.Exprs)...)
	}
	if p.Rep.Name != "" {
		inner = inner.with(r.declare(&p.Rep.Name, api.Type{}, around))
		r.exprs(around, &p.Rep.Base, &p.Rep.Count)
	}
	if p.Kind == api.PrSpec {
		inner = inner.with(r.spec(&p.Spec, around)...)
	}
	for i := range p.Guards {
		g := &p.Guards[i]
		r.tags[g.Name] = true
		r.exprs(inner, &g.Cond, &g.Chan)
		r.exprs(inner, pointers(g.Targets)...)
		r.exprs(inner, pointers(g.Values)...)
		r.exprs(inner, &g.Time)
		r.process(&g.Body[0], inner)
	}
	for i := range p.L {
		r.process(&p.L[i], inner)
	}
}

// spec returns the declarations of a specification for the process behind it.
func (r *reader) spec(s *api.Spec, around *scopes) (names []*mention) {
	for i := range s.Names {
		m := r.declare(&s.Names[i], s.Type, around)
		m.proto, m.twice = s.Proto, slices.Contains(s.Names[:i], s.Names[i])
		m.alone = s.Kind == api.SpDeclare && len(s.Names) == 1
		names = append(names, m)
	}
	var formals []*mention
	earlier := map[string]bool{}
	for i := range s.Formals {
		f := &s.Formals[i]
		m := r.declare(&f.Name, f.Type, around)
		m.twice, earlier[f.Name] = earlier[f.Name], true
		formals = append(formals, m)
	}
	r.use(&s.Type.Proto, around)
	for i := range s.Formals {
		r.use(&s.Formals[i].Type.Proto, around)
	}
	r.exprs(around, &s.E)
	for _, v := range s.Proto.L {
		r.tags[v.Tag] = true
	}
	for i := range s.Body {
		r.process(&s.Body[i], around.with(formals...))
	}
	return names
}

func (m *mention) isFree() bool { return !m.declares && m.refers == nil }

func freeByRules(r *reader) []string {
	free := map[string]bool{}
	for _, m := range r.mentions {
		if m.isFree() {
			free[*m.at] = true
		}
	}
	return slices.Sorted(maps.Keys(free))
}

func checkByRules(r *reader, names []string) (string, api.Errno) {
	for _, m := range r.mentions {
		if m.isFree() && !slices.Contains(names, *m.at) {
			return *m.at, api.ErrScope
		}
		if m.twice {
			return *m.at, api.ErrTwice
		}
	}
	return "", api.OK
}

// uniqueByRules returns a process that is to be compared with what Unique returns.
func uniqueByRules(p api.Process) (api.Process, api.Errno) {
	p = copied(p)
	r := readerOf(&p)
	out := r.tags
	for _, m := range r.mentions {
		if m.twice {
			return api.Process{}, api.ErrTwice
		}
		out[*m.at] = out[*m.at] || m.isFree()
	}
	n := 0
	for _, m := range r.mentions {
		switch {
		case m.declares:
			for n++; out[fmt.Sprint("n", n)]; n++ {
			}
			*m.at = fmt.Sprint("n", n)
		case m.refers != nil:
			*m.at = *m.refers.at
		}
	}
	return p, api.OK
}
