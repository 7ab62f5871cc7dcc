package step_test

import (
	"slices"
	"testing"

	"transputer/api"
	"transputer/eval"
	"transputer/kernel"
	"transputer/step"
	"transputer/types"
)

// runner executes a sequential process statement by statement, and notes what it has done.
type runner struct {
	store [][]int32
	in    []int32
	fuel  int
	done  []api.Move // of Next, the Store and In alone
}

// did notes that something was done, and reports whether it may go on.
func (r *runner) did(kind api.MoveKind, e api.Event) bool {
	r.done = append(r.done, api.Move{Kind: kind, Event: e, Next: api.State{Store: r.store, In: r.in}})
	r.fuel--
	return r.fuel > 0
}

// stopped notes that a fault was found, if there was one to be found.
func (r *runner) stopped() bool {
	r.did(api.MvTau, api.Event{})
	return false
}

// put stores values into places, and reports whether it could.
func (r *runner) put(to []api.KPlace, values []int32) bool {
	after, ok := stored(r.store, to, values)
	if ok {
		r.store = after
	}
	return ok
}

// run executes a process, and reports whether it came to its end.
func (r *runner) run(p api.KProc) bool {
	values, ok := valuesOf(r.store, p.E)
	if !ok {
		return r.stopped()
	}
	switch p.Kind {
	case api.KpSkip:
		return true
	case api.KpClear:
		r.store = cleared(r.store, p.V)
		return r.did(api.MvTau, api.Event{})
	case api.KpAssign:
		return r.put(p.To, values) && r.did(api.MvTau, api.Event{}) || r.fuel > 0 && r.stopped()
	case api.KpTime:
		return r.put(p.To, []int32{0}) && r.did(api.MvTau, api.Event{}) || r.fuel > 0 && r.stopped()
	case api.KpIn:
		return r.input(p)
	case api.KpOut:
		return p.C == 1 && r.did(api.MvComm, api.Event{C: 1, V: values[0]})
	case api.KpSeq:
		return !slices.ContainsFunc(p.L, func(q api.KProc) bool { return !r.run(q) })
	case api.KpIf:
		return r.choose(p)
	case api.KpWhile:
		for {
			v, ok := eval.Value(r.store, p.E[0])
			if !ok {
				return r.stopped()
			}
			if !r.did(api.MvTau, api.Event{}) || v == 1 && !r.run(p.L[0]) {
				return false
			}
			if v == 0 {
				return true
			}
		}
	}
	return false
}

func (r *runner) input(p api.KProc) bool {
	if _, _, ok := eval.Place(r.store, p.To[0]); !ok {
		return r.stopped()
	}
	if p.C != 0 || len(r.in) == 0 {
		return false
	}
	x := r.in[0]
	r.put(p.To, r.in[:1])
	r.in = r.in[1:]
	return r.did(api.MvComm, api.Event{V: x})
}

func (r *runner) choose(p api.KProc) bool {
	for _, g := range p.Guards {
		if v, ok := eval.Value(r.store, g.Cond); !ok {
			break
		} else if v == 1 {
			return r.did(api.MvTau, api.Event{}) && r.run(g.Body[0])
		}
	}
	return r.stopped()
}

// P18.3: a sequential kernel has at most one move besides MvTick, and its moves compute what its statements say.
func TestSequences(t *testing.T) {
	const fuel = 40
	long, done := 0, 0
	someKernels(7, 3000, true, func(k api.Kernel, in []int32, next func(int) int) {
		r := &runner{store: eval.Store(k), in: in, fuel: fuel}
		ended := r.run(k.Root)
		s := start(t, k, in...)
		for n := range fuel {
			l := step.Moves(k, s)
			if len(l) > 2 {
				t.Fatalf("%s has the moves %s", brief(s), brief(l))
			}
			if (len(l) == 2) != (n < len(r.done)) {
				t.Fatalf("%s has %d moves after %d statements; by the statements %s, it has %d", brief(s), len(l), n, brief(k), len(r.done))
			}
			if len(l) == 1 {
				break
			}
			m, want := l[0], r.done[n]
			if m.Kind != want.Kind || m.Event != want.Event || !equal(m.Next.Store, want.Next.Store) || !equal(m.Next.In, want.Next.In) || m.Next.Time != 0 {
				t.Fatalf("%s has the move %s, not %s", brief(s), brief(m), brief(want))
			}
			s = m.Next
		}
		if len(r.done) < fuel && step.Done(s) != ended {
			t.Fatalf("%s ends with %s", brief(k), brief(s))
		}
		if len(r.done) > 5 {
			long++
		}
		if ended {
			done++
		}
	})
	if long < 500 || done < 500 {
		t.Error(long, done)
	}
}

// P18.4: the events on channel 0 are the words of In, in order, and those on channel 1 leave the store as it is.
func TestHost(t *testing.T) {
	ins, outs := 0, 0
	someKernels(8, 1500, false, func(k api.Kernel, in []int32, next func(int) int) {
		words, got := []int32{}, []int32{}
		for range 6 {
			words = append(words, int32(next(9)-2))
		}
		s := start(t, k, words...)
		for range 25 {
			l := step.Moves(k, s)
			for _, m := range l {
				left := s.In
				if m.Kind == api.MvComm && m.Event.C == 0 {
					ins++
					if len(left) == 0 || m.Event.V != left[0] {
						t.Fatalf("%s has the event %s", brief(s), brief(m.Event))
					}
					left = left[1:]
				}
				if !slices.Equal(m.Next.In, left) {
					t.Errorf("after %s and %s, In is %v", brief(s), brief(m.Event), m.Next.In)
				}
				if m.Kind == api.MvComm && m.Event.C == 1 {
					outs++
					if !eval.Same(m.Next.Store, s.Store) {
						t.Errorf("after %s and %s, the store is %v", brief(s), brief(m.Event), m.Next.Store)
					}
				}
			}
			m := pick(next, l)
			if m.Kind == api.MvComm && m.Event.C == 0 {
				got = append(got, m.Event.V)
			}
			s = m.Next
		}
		if !slices.Equal(append(got, s.In...), words) {
			t.Errorf("of %v came %v, and %v are left", words, got, s.In)
		}
	})
	if ins < 1000 || outs < 1000 {
		t.Error(ins, outs)
	}
}

// reversed returns a process with the branches of all its KpPar in the other order.
func reversed(p api.KProc) api.KProc {
	l := slices.Clone(p.L)
	for i := range l {
		l[i] = reversed(l[i])
	}
	if p.Kind == api.KpPar {
		slices.Reverse(l)
	}
	p.L, p.Guards = l, slices.Clone(p.Guards)
	for i := range p.Guards {
		p.Guards[i].Body = []api.KProc{reversed(p.Guards[i].Body[0])}
	}
	return p
}

// without returns a list without one move that is equal to m, and whether there was one.
func without(l []api.Move, m api.Move) ([]api.Move, bool) {
	i := slices.IndexFunc(l, func(x api.Move) bool {
		return x.Kind == m.Kind && x.Event == m.Event && step.Same(x.Next, m.Next)
	})
	if i < 0 {
		return l, false
	}
	return slices.Delete(l, i, i+1), true
}

// P18.5: with the branches of its KpPar reversed, a state has the same moves, but for their order and that of the branches.
func TestReversed(t *testing.T) {
	moves := 0
	someKernels(9, 1200, false, func(k api.Kernel, in []int32, next func(int) int) {
		walk(t, k, in, 15, next, func(s api.State, l []api.Move) {
			other := s
			other.Root = reversed(s.Root)
			rest := step.Moves(k, other)
			if len(rest) != len(l) {
				t.Fatalf("%s has %d moves, and %d with its branches reversed", brief(s), len(l), len(rest))
			}
			for _, m := range l {
				moves++
				m.Next.Root = reversed(m.Next.Root)
				var ok bool
				if rest, ok = without(rest, m); !ok {
					t.Fatalf("%s does not have the move %s with its branches reversed", brief(s), brief(m))
				}
			}
		})
	})
	if moves < 15000 {
		t.Error(moves)
	}
}

// changedElements returns how many elements of two stores are different.
func changedElements(a, b [][]int32) (n int) {
	for v := range a {
		for i := range a[v] {
			if a[v][i] != b[v][i] {
				n++
			}
		}
	}
	return n
}

// inputsOf returns what a component may become after an input of a value from a channel.
func inputsOf(p api.KProc, e api.Event) (l []api.KProc) {
	if p.Kind == api.KpIn && p.C == e.C && types.Fits(p.Item, e.V) {
		l = append(l, kproc("skip"))
	}
	for _, g := range p.Guards {
		if p.Kind == api.KpWait && g.Kind == api.GuInput && g.Cond.N == 1 && g.C == e.C && types.Fits(g.Item, e.V) {
			l = append(l, g.Body[0])
		}
	}
	return l
}

// isMeeting tells whether Root after a communication is that before it with an output and an input replaced.
func isMeeting(s api.State, m api.Move) bool {
	paths := pathsOf(s.Root)
	for _, from := range paths {
		out := componentAt(s.Root, from)
		if out.Kind != api.KpOut || out.C != m.Event.C {
			continue
		}
		if x, ok := eval.Value(s.Store, out.E[0]); !ok || x != m.Event.V {
			continue
		}
		after := replaced(s.Root, from, kproc("skip"))
		for _, to := range paths {
			for _, becomes := range inputsOf(componentAt(s.Root, to), m.Event) {
				if equal(normalByRules(replaced(after, to, becomes)), m.Next.Root) {
					return true
				}
			}
		}
	}
	return false
}

// P18.6: a communication inside replaces an output and an input, and changes at most one element of the store.
func TestMeetings(t *testing.T) {
	inside, changed := 0, 0
	someKernels(10, 2500, false, func(k api.Kernel, in []int32, next func(int) int) {
		walk(t, k, in, 20, next, func(s api.State, l []api.Move) {
			for _, m := range l {
				if m.Kind != api.MvComm || m.Event.C < 2 {
					continue
				}
				inside++
				n := changedElements(s.Store, m.Next.Store)
				changed += n
				if n > 1 || !isMeeting(s, m) || m.Next.Time != s.Time {
					t.Errorf("%s has the move %s", brief(s), brief(m))
				}
			}
		})
	})
	if inside < 1000 || changed < 300 {
		t.Error(inside, changed)
	}
}

// P18.2: Start and moves lead to states also in kernels that are as deep and as large as they can be.
func TestLargestKernels(t *testing.T) {
	loop := kproc("v0 := v0 + 1")
	for depth := 2; depth <= 32; depth++ {
		loop = api.KProc{Kind: api.KpWhile, E: []api.KExpr{number(1)}, L: []api.KProc{loop}}
	}
	wide := row(2047)
	wide.L[0] = kproc("v0 := v0 + 1")
	mixed := api.KProc{Kind: api.KpSeq, L: append([]api.KProc{kproc("clear v0")}, slices.Repeat([]api.KProc{kproc("v0 := v0 + 1")}, 2016)...)}
	for range 30 {
		mixed = api.KProc{Kind: api.KpWhile, E: []api.KExpr{number(1)}, L: []api.KProc{mixed}}
	}
	for _, root := range []api.KProc{loop, wide, mixed} {
		k := kernelOf("INT", 2, "skip")
		k.Root = root
		if !kernel.May(k) {
			t.Fatal(procDepth(root), kernel.Size(root))
		}
		s := start(t, k)
		for range 40 {
			if !step.May(k, s) {
				t.Fatal(procDepth(s.Root), kernel.Size(s.Root))
			}
			s = after(t, k, s, 0)
		}
	}
}
