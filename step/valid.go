package step

import (
	"slices"

	"transputer/api"
	"transputer/kernel"
)

// The limits of what is left of a kernel.
const (
	mostProcs = 40 * api.MaxTree
	mostDepth = 3 * api.MaxDepth
)

// checker checks the processes that are left of a kernel. Layer 16 checks them without the processes in them, many at once:
// as the elements of a KpSeq, which is valid if each of them is.
type checker struct {
	vars  []api.Var
	chans []api.HostKind
	procs int         // how many processes have been met
	bare  []api.KProc // those of them that are still to be checked
	size  int         // how many processes there are in these
}

// mayBeLeft reports whether a process can be the Root of a state of a valid kernel.
func mayBeLeft(k api.Kernel, root *api.KProc) bool {
	c := &checker{vars: k.Vars, chans: k.Chans}
	return c.process(root, spot{depth: 1, next: true}) && c.areValid()
}

// spot is where a process is: whether it is next, and whether it is inside the first process of a KpPriPar.
type spot struct {
	depth      int
	next, high bool
}

// process reports whether p and the processes in it may be there, but for those that are still to be checked. It goes no
// deeper than the limit, so that it may call itself.
func (c *checker) process(p *api.KProc, at spot) bool {
	c.procs++
	if c.procs > mostProcs || at.depth > mostDepth || !mayBeAt(p, at) || !c.add(p) {
		return false
	}
	next := len(nextIn(p))
	for i := range p.L {
		within := spot{at.depth + 1, at.next && i < next, at.high || p.Kind == api.KpPriPar && i == 0}
		if !c.process(&p.L[i], within) {
			return false
		}
	}
	within := spot{depth: at.depth + 1, high: at.high}
	for i := range p.Guards {
		body := p.Guards[i].Body
		for j := range body {
			if !c.process(&body[j], within) {
				return false
			}
		}
	}
	return true
}

// mayBeAt reports whether a process of its kind may be there.
func mayBeAt(p *api.KProc, at spot) bool {
	switch {
	case p.Kind == api.KpPriPar && at.high:
		return false
	case p.Kind == api.KpWait:
		return at.next && !slices.ContainsFunc(p.Guards, isOpen)
	}
	return !at.next || isSettled(p)
}

// isOpen reports whether something is still to be worked out of a guard.
func isOpen(g api.KGuard) bool {
	return g.Cond.Kind != api.KxNumber || g.Kind == api.GuAfter && g.Time.Kind != api.KxNumber
}

// add adds a process to those that are to be checked, and checks the others before if all are too many for one kernel.
func (c *checker) add(p *api.KProc) bool {
	size := 1 + len(p.L) + len(p.Guards) // a guard has one process, or is not valid
	if size > api.MaxTree || len(p.Guards) > api.MaxBranch {
		return false
	}
	if c.size+size >= api.MaxTree && !c.areValid() {
		return false
	}
	c.bare = append(c.bare, bareOf(p))
	c.size += size
	return true
}

// areValid reports whether those processes are valid that are still to be checked, and forgets them.
func (c *checker) areValid() bool {
	root := api.KProc{Kind: api.KpSeq, L: c.bare}
	if len(c.bare) == 1 { // which may be as large as a kernel, without room for the KpSeq
		root = c.bare[0]
	}
	c.bare, c.size = nil, 0
	return kernel.May(api.Kernel{Vars: c.vars, Chans: c.chans, Root: root})
}

// bareOf returns a process with KpSkip in place of the processes in it, and a KpWait as the KpAlt whose fields it has.
func bareOf(p *api.KProc) api.KProc {
	bare := *p
	if bare.Kind == api.KpWait {
		bare.Kind = api.KpAlt
	}
	bare.L = slices.Repeat([]api.KProc{skip()}, len(p.L))
	bare.Guards = copies(p.Guards)
	for i := range bare.Guards {
		g := &bare.Guards[i]
		// More than one process are never valid: two stand for all of them.
		g.Body = slices.Repeat([]api.KProc{skip()}, min(len(g.Body), 2))
	}
	return bare
}
