package alias

import (
	"iter"
	"slices"

	"transputer/api"
	"transputer/expr"
	"transputer/scope"
)

// part is a process or a guard, and what stands in itself but not in the processes in it.
type part struct {
	api.Process
	end     int         // the index of the first part behind it and all that is in it
	body    int         // of a call: the index of the Body of the procedure; 0: there is none
	names   set[string] // those that occur
	bases   set[string] // theirs
	written set[string]
}

// whole is a process after Unique, as a list of its parts in the order of occurrence.
type whole struct {
	parts  []part
	free   []string
	bases  map[string]string // of the names that a SpIs declares
	bodies map[string]int    // the indices of the Bodies of procedures, by their names
}

// wholeOf returns p after Unique.
func wholeOf(p api.Process) (*whole, api.Errno) {
	q, e := scope.Unique(p)
	if e != api.OK {
		return nil, e
	}
	free, e := scope.Free(q)
	if e != api.OK {
		return nil, e
	}
	w := &whole{parts: listed(nil, q), free: free, bases: map[string]string{}, bodies: map[string]int{}}
	// What is declared comes before where it is used, so that one pass suffices.
	for i := range w.parts {
		w.enter(i)
	}
	return w, api.OK
}

// listed appends p and what is in it to a list.
func listed(l []part, p api.Process) []part {
	at := len(l)
	l = append(l, part{Process: p})
	for _, x := range p.Spec.Body {
		l = listed(l, x)
	}
	for _, g := range p.Guards {
		l = listed(l, asProcess(g))
	}
	for _, x := range p.L {
		l = listed(l, x)
	}
	l[at].end = len(l)
	return l
}

// asProcess returns a guard as a process without a kind: no rule asks which of its expressions is which, but for the Targets.
func asProcess(g api.Guard) api.Process {
	return api.Process{Chan: g.Chan, Targets: g.Targets, Exprs: append([]api.Expr{g.Cond, g.Time}, g.Values...), L: g.Body}
}

// declared returns the names that the parts declare. Those of a process after Unique come in the same order as those before it.
func declared(l []part) (names []string) {
	for i := range l {
		names = append(names, l[i].Spec.Names...)
		for _, f := range l[i].Spec.Formals {
			names = append(names, f.Name)
		}
		if l[i].Rep.Name != "" {
			names = append(names, l[i].Rep.Name)
		}
	}
	return names
}

// before returns the name that p has for one of the whole.
func (w *whole) before(p api.Process, name string) string {
	i := slices.Index(declared(w.parts), name)
	if i < 0 {
		return name
	}
	return declared(listed(nil, p))[i]
}

// enter makes known what the part i declares, and what stands in it.
func (w *whole) enter(i int) {
	x := &w.parts[i]
	switch x.Spec.Kind {
	case api.SpIs:
		w.bases[x.Spec.Names[0]] = w.base(x.Spec.E.S)
	case api.SpProc:
		w.bodies[x.Spec.Names[0]] = i + 1
	}
	x.body = w.bodies[x.Name]
	x.names = set[string]{}
	for _, e := range exprs(x.Process) {
		x.names.add(expr.Names(e)...)
	}
	x.bases = set[string]{}
	for name := range x.names {
		x.bases.add(w.base(name))
	}
	x.written = set[string]{}
	for _, e := range append(w.changed(x), x.Targets...) {
		x.written.add(w.base(e.S))
	}
}

// base returns the base of a name.
func (w *whole) base(name string) string {
	if b, ok := w.bases[name]; ok {
		return b
	}
	return name
}

// basesOf returns the bases of the names in expressions.
func (w *whole) basesOf(l ...api.Expr) set[string] {
	s := set[string]{}
	for _, x := range l {
		for _, name := range expr.Names(x) {
			s.add(w.base(name))
		}
	}
	return s
}

// exprs returns the expressions of a process, without those of the processes in it. The tag of an output may be among them:
// if it does not count, it is neither declared nor free, and no rule asks for such a name.
func exprs(p api.Process) []api.Expr {
	return slices.Concat([]api.Expr{p.Chan, p.Rep.Base, p.Rep.Count, p.Spec.E}, p.Targets, p.Exprs)
}

func isElement(x api.Expr) bool { return x.Kind == api.ExName || x.Kind == api.ExIndex }

// formals returns the formals of the procedure that a part calls which have an expression.
func (w *whole) formals(x *part) []api.Formal {
	l := w.parts[x.body-1].Spec.Formals
	return l[:min(len(l), len(x.Exprs))]
}

// changed returns the expressions of a call whose variables the call may change.
func (w *whole) changed(x *part) (l []api.Expr) {
	if x.Kind != api.PrCall {
		return nil
	}
	if x.body == 0 {
		return slices.DeleteFunc(slices.Clone(x.Exprs), func(e api.Expr) bool { return !isElement(e) })
	}
	for i, f := range w.formals(x) {
		hasValue := f.Type.Kind == api.TyInt || f.Type.Kind == api.TyByte || f.Type.Kind == api.TyBool
		if hasValue && !f.Val && isElement(x.Exprs[i]) {
			l = append(l, x.Exprs[i])
		}
	}
	return l
}

// reached returns the parts of the process i, and those of the procedures that are called in it, in these, and so on, each once.
func (w *whole) reached(i int) iter.Seq[*part] {
	return func(yield func(x *part) bool) {
		seen := set[int]{i: true}
		for left := []int{i}; len(left) > 0; {
			first := left[len(left)-1]
			end := w.parts[first].end
			left = left[:len(left)-1]
			for at := first; at < end; at++ {
				x := &w.parts[at]
				// A procedure that is declared in the process is a part of it.
				if x.body > 0 && (x.body < first || x.body >= end) && !seen[x.body] {
					seen.add(x.body)
					left = append(left, x.body)
				}
				if !yield(x) {
					return
				}
			}
		}
	}
}
