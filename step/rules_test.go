package step_test

import (
	"fmt"
	"reflect"
	"slices"

	"transputer/api"
	"transputer/eval"
	"transputer/kernel"
	"transputer/types"
)

// States and moves, once more, as the chapter says it.

// equal tells whether two values are equal in all fields, where nil and empty slices are.
func equal(a, b any) bool {
	return reflect.DeepEqual(plain(reflect.ValueOf(a)).Interface(), plain(reflect.ValueOf(b)).Interface())
}

// plain returns a copy of a value in which no slice is empty without being nil.
func plain(v reflect.Value) reflect.Value {
	r := reflect.New(v.Type()).Elem()
	r.Set(v)
	switch v.Kind() {
	case reflect.Struct:
		for i := range v.NumField() {
			r.Field(i).Set(plain(v.Field(i)))
		}
	case reflect.Slice:
		r.SetZero()
		if v.Len() > 0 {
			r.Set(reflect.MakeSlice(v.Type(), v.Len(), v.Len()))
		}
		for i := range v.Len() {
			r.Index(i).Set(plain(v.Index(i)))
		}
	}
	return r
}

// brief returns the beginning of how a value is written.
func brief(x any) string { return fmt.Sprintf("%.700s", fmt.Sprint(x)) }

func isParallel(p api.KProc) bool { return p.Kind == api.KpPar || p.Kind == api.KpPriPar }

func isBare(p api.KProc, k api.KProcKind) bool { return equal(p, api.KProc{Kind: k}) }

// withL returns p with another list of processes.
func withL(p api.KProc, l []api.KProc) api.KProc {
	p.L = l
	return p
}

// normalByRules returns the normal form of a process.
func normalByRules(p api.KProc) api.KProc {
	switch {
	case p.Kind == api.KpSeq && len(p.L) == 0:
		return kproc("skip")
	case p.Kind == api.KpSeq && len(p.L) == 1:
		return normalByRules(p.L[0])
	case p.Kind == api.KpSeq:
		first := normalByRules(p.L[0])
		if isBare(first, api.KpSkip) {
			return normalByRules(withL(p, p.L[1:]))
		}
		return withL(p, append([]api.KProc{first}, p.L[1:]...))
	case isParallel(p):
		var l []api.KProc
		left := 0
		for _, q := range p.L {
			l = append(l, normalByRules(q))
			if !isBare(l[len(l)-1], api.KpSkip) {
				left++
			}
		}
		if left == 0 {
			return kproc("skip")
		}
		return withL(p, l)
	}
	return p
}

// path is where a component is: the index in L of each process on the way.
type path []int

// pathsOf returns the paths of the components of p.
func pathsOf(p api.KProc) (l []path) {
	within := func(i int) {
		for _, q := range pathsOf(p.L[i]) {
			l = append(l, append(path{i}, q...))
		}
	}
	switch {
	case p.Kind == api.KpSeq:
		if len(p.L) > 0 {
			within(0)
		}
	case isParallel(p):
		for i := range p.L {
			within(i)
		}
	default:
		l = append(l, path{})
	}
	return l
}

func componentAt(p api.KProc, at path) api.KProc {
	for _, i := range at {
		p = p.L[i]
	}
	return p
}

func replaced(p api.KProc, at path, q api.KProc) api.KProc {
	if len(at) == 0 {
		return q
	}
	l := slices.Clone(p.L)
	l[at[0]] = replaced(l[at[0]], at[1:], q)
	return withL(p, l)
}

// innerOf returns the processes that are parts of p.
func innerOf(p api.KProc) []api.KProc {
	l := slices.Clone(p.L)
	for _, g := range p.Guards {
		l = append(l, g.Body...)
	}
	return l
}

// allIn returns p and all processes in it.
func allIn(p api.KProc) []api.KProc {
	l := []api.KProc{p}
	for _, q := range innerOf(p) {
		l = append(l, allIn(q)...)
	}
	return l
}

func procDepth(p api.KProc) int {
	n := 0
	for _, q := range innerOf(p) {
		n = max(n, procDepth(q))
	}
	return n + 1
}

// skipsInside returns p with a KpSkip in place of each process in it.
func skipsInside(p api.KProc) api.KProc {
	skips := func(n int) []api.KProc { return slices.Repeat([]api.KProc{{Kind: api.KpSkip}}, n) }
	p.L, p.Guards = skips(len(p.L)), slices.Clone(p.Guards)
	for i := range p.Guards {
		p.Guards[i].Body = skips(len(p.Guards[i].Body))
	}
	return p
}

// isWaitByRules tells whether a KpWait has the fields that it may have in a kernel.
func isWaitByRules(k api.Kernel, p api.KProc) bool {
	for _, g := range p.Guards {
		if g.Cond.Kind != api.KxNumber || g.Cond.N != 0 && g.Cond.N != 1 || g.Kind == api.GuAfter && g.Time.Kind != api.KxNumber {
			return false
		}
	}
	p.Kind = api.KpAlt
	return mayBeRootByRules(k, p)
}

func mayBeRootByRules(k api.Kernel, p api.KProc) bool {
	return kernel.May(api.Kernel{Vars: k.Vars, Chans: k.Chans, Root: skipsInside(p)})
}

// mayByRules returns what May returns, for trees that are not too large for that.
func mayByRules(k api.Kernel, s api.State) bool {
	if !kernel.May(k) || !eval.May(k, s.Store) || !equal(s.Root, normalByRules(s.Root)) {
		return false
	}
	all := allIn(s.Root)
	if len(all) > 81920 || procDepth(s.Root) > 96 {
		return false
	}
	others := s.Root // with something else in place of each KpWait that is a component
	for _, at := range pathsOf(s.Root) {
		c := componentAt(s.Root, at)
		if c.Kind == api.KpWait && !isWaitByRules(k, c) {
			return false
		}
		if c.Kind == api.KpWait {
			c.Kind = api.KpAlt
			others = replaced(others, at, c)
		}
	}
	for _, p := range allIn(others) {
		if !mayBeRootByRules(k, p) {
			return false
		}
		if p.Kind == api.KpPriPar && slices.ContainsFunc(allIn(p.L[0]), func(q api.KProc) bool { return q.Kind == api.KpPriPar }) {
			return false
		}
	}
	return true
}

// offer is a row of the chapter's table for a component: what it offers, or does alone, and what it becomes.
type offer struct {
	ins, outs bool
	c         int
	item      api.TypeKind
	to        api.KPlace
	x         int32
	store     [][]int32 // of what it does alone
	becomes   api.KProc
}

// values returns the values of expressions, and whether all have one.
func valuesOf(s [][]int32, l []api.KExpr) (values []int32, ok bool) {
	for _, x := range l {
		v, ok := eval.Value(s, x)
		if !ok {
			return nil, false
		}
		values = append(values, v)
	}
	return values, true
}

// stored returns a store after an assignment.
func stored(s [][]int32, to []api.KPlace, values []int32) ([][]int32, bool) {
	after := s
	for n, x := range to {
		v, i, ok := eval.Place(s, x)
		if !ok {
			return nil, false
		}
		after = eval.Put(after, v, i, values[n])
	}
	return after, true
}

func cleared(s [][]int32, v int) [][]int32 {
	for i := range s[v] {
		s = eval.Put(s, v, i, 0)
	}
	return s
}

// offersOf returns what a component does, by the table.
func offersOf(s api.State, p api.KProc) []offer {
	skip, stop := kproc("skip"), kproc("stop")
	tau := func(store [][]int32, q api.KProc) []offer { return []offer{{store: store, becomes: q}} }
	values, ok := valuesOf(s.Store, p.E)
	switch {
	case !ok:
		return tau(s.Store, stop)
	case p.Kind == api.KpClear:
		return tau(cleared(s.Store, p.V), skip)
	case p.Kind == api.KpAssign || p.Kind == api.KpTime:
		if p.Kind == api.KpTime {
			values = []int32{s.Time}
		}
		if after, ok := stored(s.Store, p.To, values); ok {
			return tau(after, skip)
		}
		return tau(s.Store, stop)
	case p.Kind == api.KpAfter && isAfter(s.Time, values[0]):
		return tau(s.Store, skip)
	case p.Kind == api.KpWhile && values[0] == 1:
		return tau(s.Store, api.KProc{Kind: api.KpSeq, L: []api.KProc{p.L[0], p}})
	case p.Kind == api.KpWhile:
		return tau(s.Store, skip)
	case p.Kind == api.KpOut:
		return []offer{{outs: true, c: p.C, x: values[0], becomes: skip}}
	case p.Kind == api.KpIn:
		return []offer{inputOf(s, p.C, p.Item, p.To[0], skip)}
	case p.Kind == api.KpIf:
		for _, g := range p.Guards {
			if v, ok := eval.Value(s.Store, g.Cond); !ok || v == 1 {
				return tau(s.Store, map[bool]api.KProc{true: g.Body[0], false: stop}[ok])
			}
		}
		return tau(s.Store, stop)
	case p.Kind == api.KpAlt || p.Kind == api.KpPriAlt:
		return tau(s.Store, waitFor(s, p))
	case p.Kind == api.KpWait:
		return waitOffers(s, p)
	}
	return nil
}

// isAfter tells whether a time is after another one: in the next half of all times.
func isAfter(time, other int32) bool {
	between := (int64(time) - int64(other) + 1<<32) % (1 << 32)
	return 0 < between && between < 1<<31
}

func inputOf(s api.State, c int, item api.TypeKind, to api.KPlace, q api.KProc) offer {
	if _, _, ok := eval.Place(s.Store, to); !ok {
		return offer{store: s.Store, becomes: kproc("stop")}
	}
	return offer{ins: true, c: c, item: item, to: to, becomes: q}
}

// waitFor returns the KpWait that an alternative becomes.
func waitFor(s api.State, p api.KProc) api.KProc {
	wait := api.KProc{Kind: api.KpWait}
	for _, g := range p.Guards {
		worked := []api.KExpr{g.Cond}
		if g.Kind == api.GuAfter {
			worked = append(worked, g.Time)
		}
		values, ok := valuesOf(s.Store, worked)
		if !ok {
			return kproc("stop")
		}
		g.Cond = number(values[0])
		if g.Kind == api.GuAfter {
			g.Time = number(values[1])
		}
		wait.Guards = append(wait.Guards, g)
	}
	return wait
}

func waitOffers(s api.State, p api.KProc) (l []offer) {
	for _, g := range p.Guards {
		switch {
		case g.Cond.N == 0:
		case g.Kind == api.GuInput:
			l = append(l, inputOf(s, g.C, g.Item, g.To, g.Body[0]))
		case g.Kind == api.GuSkip || isAfter(s.Time, g.Time.N):
			l = append(l, offer{store: s.Store, becomes: g.Body[0]})
		}
	}
	return l
}

// movesByRules returns what Moves returns for a state of a kernel.
func movesByRules(s api.State) (l []api.Move) {
	paths := pathsOf(s.Root)
	move := func(kind api.MoveKind, e api.Event, store [][]int32, root api.KProc, in []int32) {
		l = append(l, api.Move{Kind: kind, Event: e, Next: api.State{Store: store, Root: normalByRules(root), In: in, Time: s.Time}})
	}
	got := func(o offer, x int32) [][]int32 {
		after, _ := stored(s.Store, []api.KPlace{o.to}, []int32{x})
		return after
	}
	for n, at := range paths {
		for _, o := range offersOf(s, componentAt(s.Root, at)) {
			after := replaced(s.Root, at, o.becomes)
			switch {
			case !o.ins && !o.outs:
				move(api.MvTau, api.Event{}, o.store, after, s.In)
			case o.outs && o.c == 1:
				move(api.MvComm, api.Event{C: 1, V: o.x}, s.Store, after, s.In)
			case o.outs:
				for m, other := range paths {
					for _, i := range offersOf(s, componentAt(s.Root, other)) {
						if m != n && i.ins && i.c == o.c && types.Fits(i.item, o.x) {
							move(api.MvComm, api.Event{C: o.c, V: o.x}, got(i, o.x), replaced(after, other, i.becomes), s.In)
						}
					}
				}
			case o.c == 0 && len(s.In) > 0:
				move(api.MvComm, api.Event{V: s.In[0]}, got(o, s.In[0]), after, s.In[1:])
			}
		}
	}
	move(api.MvTick, api.Event{}, s.Store, s.Root, s.In)
	l[len(l)-1].Next.Time = int32(int64(s.Time) + 1)
	return l
}
