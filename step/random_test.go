package step_test

import (
	"testing"

	"transputer/api"
	"transputer/kernel"
	"transputer/step"
)

// random returns numbers in a fixed order without a pattern.
func random(seed uint32) func(n int) int {
	return func(n int) int {
		seed = seed*1664525 + 1013904223
		return int(seed>>9) % n
	}
}

func pick[T any](next func(int) int, l []T) T { return l[next(len(l))] }

// builder builds random valid kernels, in which processes often find each other.
type builder struct {
	next       func(int) int
	chans      int
	sequential bool // without parallel processes, alternatives and KpAfter
	high       bool // where there is no KpPriPar
}

// The variables of each kind, without and with dimension: INT BYTE BOOL [3]INT [2]BYTE [2]BOOL.
var singles, arrays = map[api.TypeKind]int{api.TyInt: 0, api.TyByte: 1, api.TyBool: 2}, map[api.TypeKind]int{api.TyInt: 3, api.TyByte: 4, api.TyBool: 5}

var valueKinds = []api.TypeKind{api.TyInt, api.TyByte, api.TyBool}

// index returns an index that mostly is one of an array of two.
func (b *builder) index() api.KExpr {
	switch b.next(12) {
	case 0:
		return b.expr(api.TyInt, 1)
	case 1, 2, 3:
		return api.KExpr{Kind: api.KxConvert, To: api.TyInt, L: []api.KExpr{{Kind: api.KxVar, V: 2}}}
	}
	return number(int32(b.next(2)))
}

func (b *builder) place(k api.TypeKind) api.KPlace {
	if b.next(2) == 0 {
		return api.KPlace{V: singles[k]}
	}
	return api.KPlace{V: arrays[k], Index: []api.KExpr{b.index()}}
}

func (b *builder) expr(k api.TypeKind, depth int) api.KExpr {
	if depth > 0 && b.next(2) == 0 {
		return b.operation(k, depth-1)
	}
	if b.next(3) == 0 {
		return number(map[api.TypeKind]int32{api.TyInt: int32(b.next(9) - 3), api.TyByte: int32(b.next(256)), api.TyBool: int32(b.next(2))}[k])
	}
	if x := b.place(k); len(x.Index) > 0 {
		return api.KExpr{Kind: api.KxElem, V: x.V, L: x.Index}
	} else {
		return api.KExpr{Kind: api.KxVar, V: x.V}
	}
}

// safeOperators are the operators of INT, those more often that cannot fail.
var safeOperators = []api.Operator{api.OperAdd, api.OperSub, api.OperMul, api.OperDiv, api.OperPlus, api.OperPlus, api.OperMinus, api.OperMinus, api.OperTimes, api.OperBitAnd, api.OperBitXor, api.OperShl}

func (b *builder) operation(k api.TypeKind, depth int) api.KExpr {
	binary := func(o api.Operator, of api.TypeKind) api.KExpr {
		return api.KExpr{Kind: api.KxDyadic, Oper: o, L: []api.KExpr{b.expr(of, depth), b.expr(of, depth)}}
	}
	switch {
	case k == api.TyByte:
		return api.KExpr{Kind: api.KxConvert, To: k, L: []api.KExpr{b.expr(pick(b.next, []api.TypeKind{api.TyByte, api.TyBool, api.TyBool, api.TyInt}), depth)}}
	case k == api.TyInt && b.next(4) == 0:
		return api.KExpr{Kind: api.KxConvert, To: k, L: []api.KExpr{b.expr(api.TyByte, depth)}}
	case k == api.TyInt:
		return binary(pick(b.next, safeOperators), k)
	case b.next(3) == 0:
		return binary(pick(b.next, []api.Operator{api.OperAnd, api.OperOr, api.OperEq, api.OperNe}), api.TyBool)
	}
	return binary(pick(b.next, []api.Operator{api.OperEq, api.OperNe, api.OperLt, api.OperGt, api.OperLe, api.OperGe, api.OperAfter}), api.TyInt)
}

// channel returns a channel other than one, with a kind that most messages on it have.
func (b *builder) channel(not int) (c int, k api.TypeKind) {
	for c = not; c == not; {
		c = b.next(b.chans)
	}
	switch {
	case c < 2:
		return c, api.TyInt
	case b.next(10) == 0:
		return c, pick(b.next, valueKinds)
	}
	return c, valueKinds[c%3]
}

func (b *builder) guard(choice api.KProcKind, depth int) api.KGuard {
	g := api.KGuard{Kind: api.GuIf, Cond: number(1)}
	if choice == api.KpIf || b.next(3) == 0 {
		g.Cond = b.expr(api.TyBool, 2)
	}
	if choice != api.KpIf {
		g.Kind = pick(b.next, []api.GuardKind{api.GuSkip, api.GuInput, api.GuInput, api.GuInput, api.GuInput, api.GuAfter})
	}
	switch g.Kind {
	case api.GuInput:
		g.C, g.Item = b.channel(1)
		g.To = b.place(g.Item)
	case api.GuAfter:
		g.Time = b.expr(api.TyInt, 1)
	}
	g.Body = []api.KProc{b.proc(depth - 1)}
	return g
}

func (b *builder) procs(n, depth int) (l []api.KProc) {
	for range n {
		l = append(l, b.proc(depth-1))
	}
	return l
}

// kinds returns the kinds of the processes that may stand somewhere, those more often that make more happen.
func (b *builder) kinds(depth int) []api.KProcKind {
	l := []api.KProcKind{api.KpSkip, api.KpClear, api.KpAssign, api.KpAssign, api.KpAssign, api.KpIn, api.KpIn, api.KpIn, api.KpOut, api.KpOut, api.KpOut, api.KpTime}
	if !b.sequential {
		l = append(l, api.KpIn, api.KpIn, api.KpOut, api.KpOut, api.KpAfter, api.KpStop)
	}
	if depth <= 0 {
		return l
	}
	l = append(l, api.KpSeq, api.KpSeq, api.KpSeq, api.KpSeq, api.KpIf, api.KpWhile, api.KpWhile)
	if !b.sequential {
		l = append(l, api.KpPar, api.KpPar, api.KpPar, api.KpAlt, api.KpAlt, api.KpPriAlt)
		if !b.high {
			l = append(l, api.KpPriPar)
		}
	}
	return l
}

func (b *builder) proc(depth int) api.KProc {
	p := api.KProc{Kind: pick(b.next, b.kinds(depth))}
	switch p.Kind {
	case api.KpClear:
		p.V = b.next(6)
	case api.KpAssign:
		for range 1 + b.next(3) {
			k := pick(b.next, valueKinds)
			p.To, p.E = append(p.To, b.place(k)), append(p.E, b.expr(k, 2))
		}
	case api.KpIn:
		p.C, p.Item = b.channel(1)
		p.To = []api.KPlace{b.place(p.Item)}
	case api.KpOut:
		p.C, p.Item = b.channel(0)
		p.E = []api.KExpr{b.expr(p.Item, 1)}
	case api.KpTime:
		p.To = []api.KPlace{b.place(api.TyInt)}
	case api.KpAfter:
		p.E = []api.KExpr{b.expr(api.TyInt, 1)}
	case api.KpSeq, api.KpPar:
		p.L = b.procs(b.next(5), depth)
	case api.KpPriPar:
		was := b.high
		b.high = true
		p.L = b.procs(1, depth)
		b.high = was
		p.L = append(p.L, b.proc(depth-1))
	case api.KpWhile:
		p.E, p.L = []api.KExpr{b.expr(api.TyBool, 1)}, b.procs(1, depth)
	case api.KpIf, api.KpAlt, api.KpPriAlt:
		for range b.next(5) {
			p.Guards = append(p.Guards, b.guard(p.Kind, depth))
		}
	}
	return p
}

// someKernels calls f with many kernels, and words from the host.
func someKernels(seed uint32, n int, sequential bool, f func(k api.Kernel, in []int32, next func(int) int)) {
	next := random(seed)
	for range n {
		b := &builder{next: next, chans: 3 + next(2), sequential: sequential}
		k := kernelOf(someVars, b.chans, "par")
		if sequential {
			k.Root.Kind, b.chans = api.KpSeq, 2+next(5)/4
		}
		for range 2 + next(4) {
			k.Root.L = append(k.Root.L, b.proc(1+next(4)))
		}
		var in []int32
		for range next(7) {
			in = append(in, pick(next, []int32{0, 1, 2, -1, 300, most}))
		}
		f(k, in, next)
	}
}

// walk calls f with the states of a random walk from the first one, and their moves.
func walk(t *testing.T, k api.Kernel, in []int32, steps int, next func(int) int, f func(s api.State, l []api.Move)) {
	t.Helper()
	s := start(t, k, in...)
	for range steps {
		l := step.Moves(k, s)
		if len(l) == 0 {
			t.Fatalf("%s has no moves", brief(s))
		}
		f(s, l)
		if len(l) == 1 && next(4) > 0 {
			return
		}
		n := next(len(l))
		if n == len(l)-1 && next(4) > 0 { // MvTick, which does not lead far
			n = 0
		}
		s = l[n].Next
	}
}

// P18.1, P18.2: the moves of random kernels are what the chapter's rules say, and lead from states to states.
func TestRandom(t *testing.T) {
	states, valid := map[api.MoveKind]int{}, 0
	someKernels(31, 2500, false, func(k api.Kernel, in []int32, next func(int) int) {
		if !kernel.May(k) {
			return
		}
		valid++
		walk(t, k, in, 15, next, func(s api.State, l []api.Move) {
			for _, m := range l {
				states[m.Kind]++
			}
			if states[api.MvTick]%7 == 0 && !mayByRules(k, s) || !step.May(k, s) {
				t.Errorf("%s is reached in %s and is no state", brief(s), brief(k))
			}
			if want := movesByRules(s); !equal(l, want) {
				t.Errorf("%s has the moves %s, not %s", brief(s), brief(l), brief(want))
			}
			if l[len(l)-1].Kind != api.MvTick || step.Done(s) && len(l) > 1 {
				t.Errorf("%s has the moves %s", brief(s), brief(l))
			}
		})
	})
	if valid < 2400 || states[api.MvTick] < 10000 || states[api.MvTau] < 12000 || states[api.MvComm] < 6000 {
		t.Error(valid, states)
	}
}
