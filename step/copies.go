package step

import "transputer/api"

// copies returns a list with the same elements; what these refer to is shared.
func copies[T any](l []T) []T {
	if len(l) == 0 {
		return nil
	}
	c := make([]T, len(l))
	copy(c, l)
	return c
}

// deepCopies returns a list with the same elements, in each of which own has put copies in place of its lists.
func deepCopies[T any](l []T, own func(x *T)) []T {
	c := copies(l)
	for i := range c {
		own(&c[i])
	}
	return c
}

func ownList(l *[]int32) { *l = copies(*l) }

func ownExpr(x *api.KExpr) { x.L = deepCopies(x.L, ownExpr) }

func ownPlace(x *api.KPlace) { x.Index = deepCopies(x.Index, ownExpr) }

func ownGuard(g *api.KGuard) {
	ownExpr(&g.Cond)
	ownPlace(&g.To)
	ownExpr(&g.Time)
	g.Body = deepCopies(g.Body, ownProc)
}

func ownProc(p *api.KProc) {
	p.To = deepCopies(p.To, ownPlace)
	p.E = deepCopies(p.E, ownExpr)
	p.Guards = deepCopies(p.Guards, ownGuard)
	p.L = deepCopies(p.L, ownProc)
}

// copyOf returns a copy of a state in new memory.
func copyOf(s api.State) api.State {
	s.Store = deepCopies(s.Store, ownList)
	ownProc(&s.Root)
	s.In = copies(s.In)
	return s
}
