package kernel

import (
	"slices"

	"transputer/api"
)

// The channels to which the host listens, and on which it speaks.
const (
	fromHost = 0
	toHost   = 1
)

func isValue(k api.TypeKind) bool { return api.TyInt <= k && k <= api.TyBool }

func mayVars(l []api.Var) bool {
	return len(l) <= api.MaxVars && !slices.ContainsFunc(l, func(v api.Var) bool {
		return !isValue(v.Kind) || v.Dim < 0 || v.Dim > api.MaxDim
	})
}

func mayChans(l []api.HostKind) bool {
	if len(l) < 2 || len(l) > api.MaxChans || l[fromHost] != api.HostIn || l[toHost] != api.HostOut {
		return false
	}
	return !slices.ContainsFunc(l[toHost+1:], func(k api.HostKind) bool { return k != api.Inside })
}

// mayProcs reports whether the processors of a kernel are valid if its Root is.
func mayProcs(k api.Kernel) bool {
	if len(k.Procs) == 0 {
		return true
	}
	if k.Root.Kind != api.KpPar || len(k.Procs) != len(k.Root.L) {
		return false
	}
	return allDifferent(k.Procs) && !slices.ContainsFunc(k.Procs, func(n int) bool { return n < 0 || n >= api.MaxNodes })
}

func allDifferent(l []int) bool {
	for i, x := range l {
		if slices.Contains(l[:i], x) {
			return false
		}
	}
	return true
}

// span is how many elements a list may have.
type span struct{ least, most int }

func (s span) has(n int) bool { return s.least <= n && n <= s.most }

// procForm is which fields the processes of a kind have: lists with so many elements, and guards from the first to the
// last kind. agree reports whether those that are there suit each other and the variables; nil: they always do.
type procForm struct {
	variable, channel     bool
	to, exprs, guards, l  span
	firstGuard, lastGuard api.GuardKind
	agree                 func(p *api.KProc) bool
}

// checker checks the processes of a kernel.
type checker struct {
	vars    []api.Var // all of them valid
	chans   int
	procs   int // how many processes have been met
	exprs   int // how many expressions in the present one
	ofExprs map[api.KExprKind]exprForm
	ofProcs map[api.KProcKind]procForm
}

func checkerOf(vars []api.Var, chans int) *checker {
	c := &checker{vars: vars, chans: chans}
	c.ofExprs, c.ofProcs = c.exprForms(), c.procForms()
	return c
}

// procForms returns the forms of all kinds.
func (c *checker) procForms() map[api.KProcKind]procForm {
	one := span{1, 1}
	choice := procForm{guards: span{0, api.MaxBranch}, firstGuard: api.GuSkip, lastGuard: api.GuAfter}
	return map[api.KProcKind]procForm{
		api.KpSkip:   {},
		api.KpStop:   {},
		api.KpClear:  {variable: true, agree: c.clears},
		api.KpAssign: {to: span{1, api.MaxItems}, exprs: span{1, api.MaxItems}, agree: c.assigns},
		api.KpIn:     {channel: true, to: one, agree: c.inputs},
		api.KpOut:    {channel: true, exprs: one, agree: c.outputs},
		api.KpTime:   {to: one, agree: c.reads},
		api.KpAfter:  {exprs: one, agree: c.waits},
		api.KpSeq:    {l: span{0, api.MaxTree}},
		api.KpPar:    {l: span{0, api.MaxBranch}},
		api.KpPriPar: {l: span{2, 2}},
		api.KpIf:     {guards: span{0, api.MaxBranch}, firstGuard: api.GuIf, lastGuard: api.GuIf},
		api.KpAlt:    choice,
		api.KpPriAlt: choice,
		api.KpWhile:  {exprs: one, l: one, agree: c.repeats},
	}
}

// mayAlone reports whether p has the fields of its form alone, whatever is in them.
func (f procForm) mayAlone(p *api.KProc) bool {
	return (f.variable || p.V == 0) && (f.channel || p.C == 0 && p.Item == api.NoType) &&
		f.to.has(len(p.To)) && f.exprs.has(len(p.E)) && f.guards.has(len(p.Guards)) && f.l.has(len(p.L))
}

func (c *checker) exists(v int) bool { return 0 <= v && v < len(c.vars) }

func (c *checker) fits(x *api.KExpr, k api.TypeKind) bool { return c.kindsOf(x)&only(k) != none }

// isPlace reports whether x is a place of a kind.
func (c *checker) isPlace(x *api.KPlace, k api.TypeKind) bool {
	if !c.exists(x.V) || c.vars[x.V].Kind != k {
		return false
	}
	if c.vars[x.V].Dim == 0 {
		return len(x.Index) == 0
	}
	return len(x.Index) == 1 && c.fits(&x.Index[0], api.TyInt)
}

// carries reports whether a channel, other than the one that leads the other way, exists and has items of a kind.
func (c *checker) carries(channel, other int, item api.TypeKind) bool {
	if channel < 0 || channel >= c.chans || channel == other {
		return false
	}
	return channel > toHost || item == api.TyInt
}

func (c *checker) clears(p *api.KProc) bool { return c.exists(p.V) }

func (c *checker) assigns(p *api.KProc) bool {
	if len(p.To) != len(p.E) {
		return false
	}
	for i := range p.To {
		if x := &p.To[i]; !c.exists(x.V) || !c.isPlace(x, c.vars[x.V].Kind) || !c.fits(&p.E[i], c.vars[x.V].Kind) {
			return false
		}
	}
	return true
}

func (c *checker) inputs(p *api.KProc) bool {
	return c.carries(p.C, toHost, p.Item) && c.isPlace(&p.To[0], p.Item)
}

func (c *checker) outputs(p *api.KProc) bool {
	return c.carries(p.C, fromHost, p.Item) && c.fits(&p.E[0], p.Item)
}

func (c *checker) reads(p *api.KProc) bool { return c.isPlace(&p.To[0], api.TyInt) }

func (c *checker) waits(p *api.KProc) bool { return c.fits(&p.E[0], api.TyInt) }

func (c *checker) repeats(p *api.KProc) bool { return c.fits(&p.E[0], api.TyBool) }

// process reports whether the processes in p are valid and within the limits, where p is that deep in the kernel; high says
// that it is inside the first process of a KpPriPar. It goes no deeper than the limit, so that it may call itself.
func (c *checker) process(p *api.KProc, depth int, high bool) bool {
	c.procs++
	f, ok := c.ofProcs[p.Kind]
	if !ok || c.procs > api.MaxTree || depth > api.MaxDepth || !f.mayAlone(p) || f.agree != nil && !f.agree(p) {
		return false
	}
	first := p.Kind == api.KpPriPar
	if first && high {
		return false
	}
	for i := range p.L {
		if !c.process(&p.L[i], depth+1, high || first && i == 0) {
			return false
		}
	}
	for i := range p.Guards {
		g := &p.Guards[i]
		if g.Kind < f.firstGuard || g.Kind > f.lastGuard || !c.guard(g) || !c.process(&g.Body[0], depth+1, high) {
			return false
		}
	}
	return true
}

// guard reports whether a guard of a kind that suits its process is valid, whatever the process in its Body is.
func (c *checker) guard(g *api.KGuard) bool {
	if len(g.Body) != 1 || !c.fits(&g.Cond, api.TyBool) {
		return false
	}
	if g.Kind == api.GuInput {
		return isNone(g.Time) && c.carries(g.C, toHost, g.Item) && c.isPlace(&g.To, g.Item)
	}
	if g.C != 0 || g.Item != api.NoType || g.To.V != 0 || len(g.To.Index) != 0 {
		return false
	}
	if g.Kind == api.GuAfter {
		return c.fits(&g.Time, api.TyInt)
	}
	return isNone(g.Time)
}
