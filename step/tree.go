package step

import (
	"iter"
	"slices"

	"transputer/api"
)

func skip() api.KProc { return api.KProc{Kind: api.KpSkip} }

func stop() api.KProc { return api.KProc{Kind: api.KpStop} }

// hasNext reports whether the processes in a process of this kind are next instead of itself.
func hasNext(k api.KProcKind) bool {
	return k == api.KpSeq || k == api.KpPar || k == api.KpPriPar
}

// nextIn returns those processes in L of p that are next if p is.
func nextIn(p *api.KProc) []api.KProc {
	switch {
	case !hasNext(p.Kind):
		return nil
	case p.Kind == api.KpSeq:
		return p.L[:min(1, len(p.L))]
	}
	return p.L
}

// normal returns the normal form of a process, which shares memory with it.
func normal(p api.KProc) api.KProc {
	switch p.Kind {
	case api.KpSeq:
		return normalSeq(p)
	case api.KpPar, api.KpPriPar:
		p.L = copies(p.L)
		for i, branch := range p.L {
			p.L[i] = normal(branch)
		}
		if !slices.ContainsFunc(p.L, isLeft) {
			return skip()
		}
	}
	return p
}

func normalSeq(p api.KProc) api.KProc {
	for len(p.L) > 0 {
		first := normal(p.L[0])
		if len(p.L) == 1 {
			return first
		}
		if isLeft(first) {
			p.L = copies(p.L)
			p.L[0] = first
			return p
		}
		p.L = p.L[1:]
	}
	return skip()
}

// isLeft reports whether something is left to do of a process in normal form, if only to stop.
func isLeft(p api.KProc) bool { return p.Kind != api.KpSkip }

// isSettled reports whether a process that is next is in normal form if those in it that are next are.
func isSettled(p *api.KProc) bool {
	return !hasNext(p.Kind) || (p.Kind != api.KpSeq || len(p.L) > 1) && slices.ContainsFunc(nextIn(p), isLeft)
}

// rebuilder rebuilds the tree above a component: it returns the tree with another process in the component's place.
type rebuilder func(tree, becomes api.KProc) api.KProc

// components produces the components of a tree in normal form, from left to right. The tree that a rebuilder is given may be
// one in which other components have been replaced before.
func components(tree *api.KProc) iter.Seq2[*api.KProc, rebuilder] {
	return func(yield func(*api.KProc, rebuilder) bool) {
		if !hasNext(tree.Kind) {
			yield(tree, func(_, becomes api.KProc) api.KProc { return becomes })
			return
		}
		l := nextIn(tree)
		for i := range l {
			for c, rebuilt := range components(&l[i]) {
				above := func(tree, becomes api.KProc) api.KProc {
					tree.L = copies(tree.L)
					tree.L[i] = rebuilt(tree.L[i], becomes)
					return tree
				}
				if !yield(c, above) {
					return
				}
			}
		}
	}
}
