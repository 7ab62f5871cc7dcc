package kernel

import (
	"transputer/api"
	"transputer/scope"
	"transputer/types"
	"transputer/typing"
)

// failure ends an elaboration.
type failure struct{ e api.Errno }

// sequence is processes one after the other. What becomes of a process is added to it, so that no KpSeq gets into it.
type sequence []api.KProc

func (s *sequence) add(p api.KProc) { *s = append(*s, p) }

// process returns the process that a sequence, which is not empty, is by itself.
func (s sequence) process() api.KProc {
	if len(s) == 1 {
		return s[0]
	}
	return api.KProc{Kind: api.KpSeq, L: s}
}

// elaborator elaborates a program whose declared names are all different.
type elaborator struct {
	names
	vars  []api.Var
	chans []api.HostKind
	nodes []int // the processors of a PLACED PAR
	count int   // how many processes have been elaborated
	high  bool  // inside the first process of a PRI PAR
	procs map[api.ProcKind]func(s *sequence, p *api.Process)
	specs map[api.SpecKind]func(s *sequence, spec *api.Spec)
}

func newElaborator() *elaborator {
	x := &elaborator{names: names{}, chans: []api.HostKind{fromHost: api.HostIn, toHost: api.HostOut}}
	x.procs, x.specs = x.procForms(), x.specForms()
	for c, spec := range typing.Host() { // in the order of their numbers
		x.names[spec.Names[0]] = meaning{spec: spec, first: c}
	}
	return x
}

// procForms returns what is done with the processes of each kind.
func (x *elaborator) procForms() map[api.ProcKind]func(s *sequence, p *api.Process) {
	return map[api.ProcKind]func(s *sequence, p *api.Process){
		api.PrSkip:   x.skip,
		api.PrStop:   x.stop,
		api.PrAssign: x.assign,
		api.PrInput:  x.input,
		api.PrOutput: x.output,
		api.PrAfter:  x.after,
		api.PrCaseIn: x.variants,
		api.PrSeq:    x.seq,
		api.PrPar:    x.par,
		api.PrPriPar: x.priPar,
		api.PrPlaced: x.placed,
		api.PrAlt:    x.alt,
		api.PrPriAlt: x.priAlt,
		api.PrIf:     x.conditional,
		api.PrCase:   x.options,
		api.PrWhile:  x.while,
		api.PrCall:   x.call,
		api.PrSpec:   x.specified,
	}
}

// then adds what a process becomes to a sequence: at least one process.
func (x *elaborator) then(s *sequence, p *api.Process) {
	x.count++
	if x.count > api.MaxTree {
		panic(failure{api.ErrLong})
	}
	x.procs[p.Kind](s, p)
}

// alone returns what a process becomes.
func (x *elaborator) alone(p *api.Process) api.KProc {
	var s sequence
	x.then(&s, p)
	return s.process()
}

func (x *elaborator) newVar(k api.TypeKind, dim int) int {
	x.vars = append(x.vars, api.Var{Kind: k, Dim: dim})
	return len(x.vars) - 1
}

func assignment(to []api.KPlace, values []api.KExpr) api.KProc {
	return api.KProc{Kind: api.KpAssign, To: to, E: values}
}

// newValue returns a new variable to which a value is assigned.
func (x *elaborator) newValue(s *sequence, k api.TypeKind, value api.KExpr) int {
	v := x.newVar(k, 0)
	s.add(assignment([]api.KPlace{{V: v}}, []api.KExpr{value}))
	return v
}

func (x *elaborator) skip(s *sequence, p *api.Process) { s.add(api.KProc{Kind: api.KpSkip}) }

func (x *elaborator) stop(s *sequence, p *api.Process) { s.add(api.KProc{Kind: api.KpStop}) }

func (x *elaborator) assign(s *sequence, p *api.Process) {
	s.add(assignment(x.places(p.Targets), x.values(p.Exprs)))
}

// inputs adds the inputs of items to targets.
func (x *elaborator) inputs(s *sequence, channel int, items []api.TypeKind, targets []api.Expr) {
	for i, e := range targets {
		s.add(api.KProc{Kind: api.KpIn, C: channel, Item: items[i], To: []api.KPlace{x.place(e)}})
	}
}

func (x *elaborator) input(s *sequence, p *api.Process) {
	if x.isTimer(p.Chan) {
		s.add(api.KProc{Kind: api.KpTime, To: x.places(p.Targets)})
		return
	}
	x.inputs(s, x.channel(p.Chan), x.items(p.Chan), p.Targets)
}

func output(channel int, item api.TypeKind, value api.KExpr) api.KProc {
	return api.KProc{Kind: api.KpOut, C: channel, Item: item, E: []api.KExpr{value}}
}

func (x *elaborator) output(s *sequence, p *api.Process) {
	c, proto, sent := x.channel(p.Chan), x.protocol(p.Chan), p.Exprs
	tag := ""
	if proto.Cases {
		tag, sent = sent[0].S, sent[1:]
	}
	items, n, _ := types.Find(proto, tag)
	if proto.Cases {
		s.add(output(c, api.TyByte, number(int32(n))))
	}
	for i, e := range sent {
		s.add(output(c, items[i], x.value(e)))
	}
}

func (x *elaborator) after(s *sequence, p *api.Process) {
	s.add(api.KProc{Kind: api.KpAfter, E: x.values(p.Exprs)})
}

func (x *elaborator) while(s *sequence, p *api.Process) {
	s.add(loop(x.value(p.Exprs[0]), x.alone(&p.L[0])))
}

func loop(cond api.KExpr, body api.KProc) api.KProc {
	return api.KProc{Kind: api.KpWhile, E: []api.KExpr{cond}, L: []api.KProc{body}}
}

func (x *elaborator) priPar(s *sequence, p *api.Process) {
	if x.high {
		panic(failure{api.ErrKernel})
	}
	x.high = true
	first := x.alone(&p.L[0])
	x.high = false
	s.add(api.KProc{Kind: api.KpPriPar, L: []api.KProc{first, x.alone(&p.L[1])}})
}

// placed adds a PLACED PAR, above which there are specifications alone: whatever is in the sequence is what they became.
func (x *elaborator) placed(s *sequence, p *api.Process) {
	if len(*s) > 0 || !allDifferent(p.Procs) {
		panic(failure{api.ErrKernel})
	}
	x.nodes = append(x.nodes, p.Procs...)
	x.par(s, p)
}

// elaborated returns the kernel that a process becomes in which layers 11 to 15 find no error, or the first error.
func elaborated(p api.Process) (k api.Kernel, e api.Errno) {
	p, _ = scope.Unique(p)
	defer func() {
		if f, ok := recover().(failure); ok {
			e = f.e
		}
	}()
	x := newElaborator()
	root := x.alone(&p)
	return api.Kernel{Vars: x.vars, Chans: x.chans, Root: root, Procs: x.nodes}, api.OK
}
