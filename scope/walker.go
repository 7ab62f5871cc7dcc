package scope

import (
	"slices"

	"transputer/api"
)

// role is what a name is where it occurs.
type role int

const (
	declared role = iota // it is declared
	repeated             // it is declared, and stands in the same list before
	free                 // it is used, and refers to no declaration
	tag                  // it is the tag of a variant or of a guard, or empty if that has none
)

// declaration is what a name that is used refers to.
type declaration struct {
	name     string
	becomes  string
	variants []api.Variant // of a protocol; without Cases there is one, whose tag is no name
	carries  []api.Variant // of a channel: those of its protocol, whose name may be hidden where the channel is used
}

// walker goes through a valid process in the order of occurrence and makes a copy of it with other names.
type walker struct {
	scopes map[string][]declaration         // by their names, the innermost last
	become func(r role, name string) string // returns the new name; it is not asked for a name that refers to a declaration, which has the one of that
}

// walk returns p with the names that become returns.
func walk(p api.Process, become func(r role, name string) string) api.Process {
	w := &walker{scopes: map[string][]declaration{}, become: become}
	return w.process(p)
}

// replaced returns what f returns for each element of a list, in new memory.
func replaced[T, U any](l []T, f func(T) U) []U {
	r := slices.Grow([]U(nil), len(l))
	for _, x := range l {
		r = append(r, f(x))
	}
	return r
}

// same is for lists without names.
func same[T any](x T) T { return x }

// declare returns the declarations of the names of one list. They are not in scope yet: no name is in its own specification.
func (w *walker) declare(l []api.Formal) []declaration {
	var r []declaration
	for i, f := range l {
		as := declared
		if slices.ContainsFunc(l[:i], func(before api.Formal) bool { return before.Name == f.Name }) {
			as = repeated
		}
		r = append(r, declaration{name: f.Name, becomes: w.become(as, f.Name), carries: w.innermost(f.Type.Proto).variants})
	}
	return r
}

func (w *walker) enter(l []declaration) {
	for _, d := range l {
		w.scopes[d.name] = append(w.scopes[d.name], d)
	}
}

func (w *walker) leave(l []declaration) {
	for _, d := range l {
		stack := w.scopes[d.name]
		w.scopes[d.name] = stack[:len(stack)-1]
	}
}

// innermost returns the declaration that a name refers to, or one without a name if there is none.
func (w *walker) innermost(name string) declaration {
	stack := w.scopes[name]
	if len(stack) == 0 {
		return declaration{}
	}
	return stack[len(stack)-1]
}

// use returns what a name that is used becomes, if there is one.
func (w *walker) use(name string) string {
	if name == "" {
		return ""
	}
	if d := w.innermost(name); d.name != "" {
		return d.becomes
	}
	return w.become(free, name)
}

func (w *walker) expr(x api.Expr) api.Expr {
	return api.Expr{Kind: x.Kind, Oper: x.Oper, To: x.To, N: x.N, S: w.use(x.S), L: replaced(x.L, w.expr)}
}

// sendsTag tells whether the first expression of p is the tag of an output.
func (w *walker) sendsTag(p api.Process) bool {
	if p.Kind != api.PrOutput || p.Exprs[0].Kind != api.ExName {
		return false
	}
	return slices.ContainsFunc(w.innermost(p.Chan.S).carries, func(v api.Variant) bool { return v.Tag == p.Exprs[0].S })
}

// exprs returns the Exprs of p with other names.
func (w *walker) exprs(p api.Process) []api.Expr {
	if !w.sendsTag(p) {
		return replaced(p.Exprs, w.expr)
	}
	first := api.Expr{Kind: api.ExName, S: p.Exprs[0].S}
	return append([]api.Expr{first}, replaced(p.Exprs[1:], w.expr)...)
}

// rep returns a replicator, if it is one, with other names, and what it declares.
func (w *walker) rep(r api.Rep) (api.Rep, []declaration) {
	if r.Name == "" {
		return api.Rep{}, nil
	}
	l := w.declare([]api.Formal{{Name: r.Name}})
	return api.Rep{Name: l[0].becomes, Base: w.expr(r.Base), Count: w.expr(r.Count)}, l
}

func (w *walker) guard(g api.Guard) api.Guard {
	return api.Guard{
		Kind:    g.Kind,
		Name:    w.become(tag, g.Name),
		Cond:    w.expr(g.Cond),
		Chan:    w.expr(g.Chan),
		Targets: replaced(g.Targets, w.expr),
		Values:  replaced(g.Values, w.expr),
		Time:    w.expr(g.Time),
		Body:    replaced(g.Body, w.process),
	}
}

func (w *walker) typ(t api.Type) api.Type {
	t.Proto = w.use(t.Proto)
	return t
}

func (w *walker) variant(v api.Variant) api.Variant {
	return api.Variant{Tag: w.become(tag, v.Tag), Items: replaced(v.Items, same)}
}

// spec returns a specification with other names, and what it declares for the process behind it.
func (w *walker) spec(s api.Spec) (api.Spec, []declaration) {
	names := w.declare(replaced(s.Names, func(name string) api.Formal { return api.Formal{Name: name, Type: s.Type} }))
	formals := w.declare(s.Formals)
	r := api.Spec{Kind: s.Kind, Type: w.typ(s.Type)}
	for i := range names {
		names[i].variants = s.Proto.L
		r.Names = append(r.Names, names[i].becomes)
	}
	for i, f := range s.Formals {
		r.Formals = append(r.Formals, api.Formal{Val: f.Val, Type: w.typ(f.Type), Name: formals[i].becomes})
	}
	r.E = w.expr(s.E)
	r.Proto = api.Proto{Cases: s.Proto.Cases, L: replaced(s.Proto.L, w.variant)}
	w.enter(formals)
	r.Body = replaced(s.Body, w.process)
	w.leave(formals)
	return r, names
}

func (w *walker) process(p api.Process) api.Process {
	r := api.Process{Kind: p.Kind, Name: w.use(p.Name), Chan: w.expr(p.Chan), Targets: replaced(p.Targets, w.expr), Exprs: w.exprs(p), Procs: replaced(p.Procs, same)}
	rep, counter := w.rep(p.Rep)
	spec, names := w.spec(p.Spec)
	r.Rep, r.Spec = rep, spec
	// A process has one of both at the most.
	l := append(counter, names...)
	w.enter(l)
	r.Guards = replaced(p.Guards, w.guard)
	r.L = replaced(p.L, w.process)
	w.leave(l)
	return r
}
