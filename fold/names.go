package fold

import (
	"iter"
	"math"
	"slices"

	"transputer/api"
	"transputer/expr"
)

// meaning is what an expression has to know of a name in it.
type meaning struct {
	spec     *api.Spec // nil: there is none
	value    int32
	constant bool // whether there is a value
}

// size returns the number of elements of an array.
func (x meaning) size() (n int32, ok bool) {
	if x.spec == nil || x.spec.Kind != api.SpDeclare || x.spec.Type.Dim < 1 || x.spec.Type.Dim > math.MaxInt32 {
		return 0, false
	}
	return int32(x.spec.Type.Dim), true
}

// meanings are those of the names that have been entered, by the names.
type meanings map[string]meaning

// meaningsOf returns what the names in a valid expression mean in an environment.
func meaningsOf(e api.Expr, env []api.Spec) meanings {
	m := meanings{}
	for _, x := range slices.Backward(neededFor(e, env)) {
		m.enter(x)
	}
	return m
}

// enter gives the names of a specification their meaning, behind those on which its value depends.
func (m meanings) enter(x needed) {
	meant := meaning{spec: x.spec}
	if x.valued {
		meant.value, meant.constant = m.value(x.spec.E)
	}
	for _, name := range x.spec.Names {
		m[name] = meant
	}
}

// needed is a specification on which the value of an expression depends.
type needed struct {
	spec   *api.Spec
	valued bool // whether its E says what the value of its names is
}

// neededFor returns the specifications on which the value of a valid expression depends, the innermost first. Those of
// all names are searched for together: each specification is passed once, in whatever ways names lead to it.
func neededFor(e api.Expr, env []api.Spec) []needed {
	var found []needed
	missing := names{}
	missing.add(e)
search:
	for s := range outwards(env) {
		switch {
		case len(missing) == 0:
			break search
		case missing.remove(s.Names):
			x := needed{s, s.Kind == api.SpVal && expr.May(s.E)}
			if x.valued {
				missing.add(s.E)
			}
			found = append(found, x)
		}
	}
	return found
}

// outwards produces the specifications of an environment, the innermost first.
func outwards(env []api.Spec) iter.Seq[*api.Spec] {
	return func(yield func(*api.Spec) bool) {
		for i := len(env) - 1; i >= 0; i-- {
			if !yield(&env[i]) {
				return
			}
		}
	}
}

// names are those whose specifications have not been found yet.
type names map[string]bool

func (n names) add(e api.Expr) {
	for _, name := range expr.Names(e) {
		n[name] = true
	}
}

// remove removes names, and reports whether there was one of them.
func (n names) remove(l []string) bool {
	before := len(n)
	for _, name := range l {
		delete(n, name)
	}
	return len(n) < before
}
