package kernel

import (
	"slices"

	"transputer/api"
)

// walk is what is left of the way through trees: lists of their nodes, none of them empty, the last one to be passed first.
// It takes the place of calls, since a tree that is not valid may be deeper than they can be.
type walk[T any] struct {
	lists [][]T
	inner func(w *walk[T], x *T) // pushes the lists in a node
}

func walkOf[T any](l []T, inner func(w *walk[T], x *T)) *walk[T] {
	w := &walk[T]{inner: inner}
	w.push(l)
	return w
}

func (w *walk[T]) push(l []T) {
	if len(l) > 0 {
		w.lists = append(w.lists, l)
	}
}

// next returns the next node, which comes before those in it, or nil if none is left.
func (w *walk[T]) next() *T {
	last := len(w.lists) - 1
	if last < 0 {
		return nil
	}
	l := w.lists[last]
	w.lists = w.lists[:last]
	w.push(l[1:])
	w.inner(w, &l[0])
	return &l[0]
}

func pushExprs(w *walk[api.KExpr], x *api.KExpr) { w.push(x.L) }

func pushProcs(w *walk[api.KProc], p *api.KProc) {
	w.push(p.L)
	for i := range p.Guards {
		w.push(p.Guards[i].Body)
	}
}

// sameTrees reports whether the nodes of a and b, and those in them, are the same; alone compares two nodes, and the
// lengths of the lists in them.
func sameTrees[T any](a, b []T, inner func(w *walk[T], x *T), alone func(x, y *T) bool) bool {
	if len(a) == 0 || len(b) == 0 { // as most lists are
		return len(a) == len(b)
	}
	if len(a) != len(b) {
		return false
	}
	v, w := walkOf(a, inner), walkOf(b, inner)
	for x := v.next(); x != nil; x = v.next() {
		// The lists have been equally long so far: w has a next node too.
		if !alone(x, w.next()) {
			return false
		}
	}
	return true
}

func sameExprs(a, b []api.KExpr) bool {
	return sameTrees(a, b, pushExprs, func(x, y *api.KExpr) bool {
		return x.Kind == y.Kind && x.Oper == y.Oper && x.To == y.To && x.N == y.N && x.V == y.V && len(x.L) == len(y.L)
	})
}

func sameExpr(a, b api.KExpr) bool { return sameExprs([]api.KExpr{a}, []api.KExpr{b}) }

func samePlace(a, b api.KPlace) bool { return a.V == b.V && sameExprs(a.Index, b.Index) }

// sameGuard reports whether a and b are equal in all fields, whatever the processes in Body are.
func sameGuard(a, b api.KGuard) bool {
	return a.Kind == b.Kind && a.C == b.C && a.Item == b.Item && len(a.Body) == len(b.Body) &&
		sameExpr(a.Cond, b.Cond) && sameExpr(a.Time, b.Time) && samePlace(a.To, b.To)
}

func sameProc(a, b api.KProc) bool {
	return sameTrees([]api.KProc{a}, []api.KProc{b}, pushProcs, func(x, y *api.KProc) bool {
		return x.Kind == y.Kind && x.C == y.C && x.V == y.V && x.Item == y.Item && len(x.L) == len(y.L) &&
			slices.EqualFunc(x.To, y.To, samePlace) && sameExprs(x.E, y.E) && slices.EqualFunc(x.Guards, y.Guards, sameGuard)
	})
}
