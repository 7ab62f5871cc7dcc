package step

import (
	"transputer/api"
	"transputer/eval"
)

// actKind says with whom a component acts.
type actKind uint8

const (
	alone  actKind = iota
	input          // with an output
	output         // with an input
)

// put is an element of the store, and the value that it gets.
type put struct {
	v, i int
	x    int32
}

// act is something that a component can do, after which it becomes another process. A field that its kind does not use is zero.
type act struct {
	kind    actKind
	c       int          // input, output: the channel
	item    api.TypeKind // input
	to      put          // input: where the value goes
	x       int32        // output: the value
	puts    []put        // alone: the changes of the store
	becomes api.KProc
}

func actAlone(becomes api.KProc, puts ...put) act {
	return act{kind: alone, puts: puts, becomes: becomes}
}

// fault is what a component does if a value or a place has a fault.
func fault() act { return actAlone(stop()) }

// now is what components work out their values in.
type now struct {
	store [][]int32
	time  int32
}

// acts returns what a component can do, in order.
func (n now) acts(p *api.KProc) []act {
	switch p.Kind {
	case api.KpClear:
		return []act{n.clear(p.V)}
	case api.KpAssign:
		return []act{n.assign(p)}
	case api.KpTime:
		return []act{n.set(p.To, []int32{n.time})}
	case api.KpAfter:
		return n.pass(p.E[0])
	case api.KpIf:
		return []act{n.choose(p.Guards)}
	case api.KpWhile:
		return []act{n.repeat(p)}
	case api.KpAlt, api.KpPriAlt:
		return []act{n.enable(p.Guards)}
	case api.KpWait:
		return n.wait(p.Guards)
	case api.KpIn:
		return []act{n.input(p.C, p.Item, p.To[0], skip())}
	case api.KpOut:
		return []act{n.output(p)}
	}
	return nil
}

func (n now) clear(v int) act {
	puts := make([]put, len(n.store[v]))
	for i := range puts {
		puts[i] = put{v: v, i: i}
	}
	return actAlone(skip(), puts...)
}

func (n now) assign(p *api.KProc) act {
	values := make([]int32, len(p.E))
	for i, x := range p.E {
		v, ok := eval.Value(n.store, x)
		if !ok {
			return fault()
		}
		values[i] = v
	}
	return n.set(p.To, values)
}

// set puts values into as many places.
func (n now) set(to []api.KPlace, values []int32) act {
	puts := make([]put, len(to))
	for k, x := range to {
		v, i, ok := eval.Place(n.store, x)
		if !ok {
			return fault()
		}
		puts[k] = put{v, i, values[k]}
	}
	return actAlone(skip(), puts...)
}

// isAfter reports whether the clock is after a time; the difference of two words wraps.
func (n now) isAfter(time int32) bool { return n.time-time > 0 }

func (n now) pass(x api.KExpr) []act {
	switch time, ok := eval.Value(n.store, x); {
	case !ok:
		return []act{fault()}
	case n.isAfter(time):
		return []act{actAlone(skip())}
	}
	return nil
}

func (n now) choose(guards []api.KGuard) act {
	for _, g := range guards {
		switch cond, ok := eval.Value(n.store, g.Cond); {
		case !ok:
			return fault()
		case cond == 1:
			return actAlone(g.Body[0])
		}
	}
	return actAlone(stop())
}

func (n now) repeat(p *api.KProc) act {
	switch cond, ok := eval.Value(n.store, p.E[0]); {
	case !ok:
		return fault()
	case cond == 1:
		return actAlone(api.KProc{Kind: api.KpSeq, L: []api.KProc{p.L[0], *p}})
	}
	return actAlone(skip())
}

// enable works out what the guards of an alternative depend on.
func (n now) enable(guards []api.KGuard) act {
	l := copies(guards)
	for i := range l {
		g := &l[i]
		if !n.workOut(&g.Cond) || g.Kind == api.GuAfter && !n.workOut(&g.Time) {
			return fault()
		}
	}
	return actAlone(api.KProc{Kind: api.KpWait, Guards: l})
}

// workOut puts the value of an expression in its place, and reports whether it has one.
func (n now) workOut(x *api.KExpr) bool {
	v, ok := eval.Value(n.store, *x)
	*x = api.KExpr{Kind: api.KxNumber, N: v}
	return ok
}

func (n now) wait(guards []api.KGuard) (l []act) {
	for _, g := range guards {
		if g.Cond.N != 1 {
			continue
		}
		switch body := g.Body[0]; g.Kind {
		case api.GuSkip:
			l = append(l, actAlone(body))
		case api.GuAfter:
			if n.isAfter(g.Time.N) {
				l = append(l, actAlone(body))
			}
		case api.GuInput:
			l = append(l, n.input(g.C, g.Item, g.To, body))
		}
	}
	return l
}

func (n now) input(c int, item api.TypeKind, to api.KPlace, becomes api.KProc) act {
	v, i, ok := eval.Place(n.store, to)
	if !ok {
		return fault()
	}
	return act{kind: input, c: c, item: item, to: put{v: v, i: i}, becomes: becomes}
}

func (n now) output(p *api.KProc) act {
	x, ok := eval.Value(n.store, p.E[0])
	if !ok {
		return fault()
	}
	return act{kind: output, c: p.C, x: x, becomes: skip()}
}
