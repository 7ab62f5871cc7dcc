package step_test

import (
	"reflect"
	"slices"
	"testing"

	"transputer/api"
	"transputer/step"
)

// roomy returns a copy of a value in new memory, where each slice, nil or not, has room for so many elements behind it, which look like its own.
func roomy(v reflect.Value, room int) reflect.Value {
	r := reflect.New(v.Type()).Elem()
	r.Set(v)
	switch v.Kind() {
	case reflect.Struct:
		for i := range v.NumField() {
			r.Field(i).Set(roomy(v.Field(i), room))
		}
	case reflect.Slice:
		r.Set(reflect.MakeSlice(v.Type(), v.Len()+room, v.Len()+room))
		for i := range v.Len() {
			r.Index(i).Set(roomy(v.Index(i), room))
		}
		for i := v.Len(); i < r.Len() && v.Len() > 0; i++ {
			r.Index(i).Set(roomy(v.Index(0), 0))
		}
		r.SetLen(v.Len())
	}
	return r
}

func withRoom[T any](x T, room int) T { return roomy(reflect.ValueOf(x), room).Interface().(T) }

// extended returns a value with all slices as long as there is room for.
func extended(v reflect.Value) reflect.Value {
	r := reflect.New(v.Type()).Elem()
	r.Set(v)
	switch v.Kind() {
	case reflect.Struct:
		for i := range v.NumField() {
			r.Field(i).Set(extended(v.Field(i)))
		}
	case reflect.Slice:
		whole := v.Slice(0, v.Cap())
		r.Set(reflect.MakeSlice(v.Type(), v.Cap(), v.Cap()))
		for i := range v.Cap() {
			r.Index(i).Set(extended(whole.Index(i)))
		}
	}
	return r
}

// sameMemory tells whether two values are equal, what is behind their slices included.
func sameMemory(a, b any) bool {
	return reflect.DeepEqual(extended(reflect.ValueOf(a)).Interface(), extended(reflect.ValueOf(b)).Interface())
}

// piece is the memory of a slice, with what is behind its length.
type piece struct{ begin, end uintptr }

// pieces returns the memory of all slices in a value.
func pieces(v reflect.Value) (l []piece) {
	switch v.Kind() {
	case reflect.Struct:
		for i := range v.NumField() {
			l = append(l, pieces(v.Field(i))...)
		}
	case reflect.Slice:
		if size := uintptr(v.Cap()) * v.Type().Elem().Size(); size > 0 {
			l = append(l, piece{v.Pointer(), v.Pointer() + size})
		}
		for i := range v.Len() {
			l = append(l, pieces(v.Index(i))...)
		}
	}
	return l
}

// overlap tells whether two slices in the values share memory.
func overlap(values ...any) bool {
	var l []piece
	for _, x := range values {
		l = append(l, pieces(reflect.ValueOf(x))...)
	}
	slices.SortFunc(l, func(a, b piece) int { return int(int64(a.begin) - int64(b.begin)) })
	for i := 1; i < len(l); i++ {
		if l[i].begin < l[i-1].end {
			return true
		}
	}
	return false
}

// erase sets everything in a value to zero, what is behind its slices included.
func erase(v reflect.Value) {
	switch v.Kind() {
	case reflect.Struct:
		for i := range v.NumField() {
			erase(v.Field(i))
		}
	case reflect.Slice:
		for i := range v.Len() {
			erase(v.Index(i))
		}
		for whole, i := v.Slice(0, v.Cap()), 0; i < v.Cap(); i++ {
			whole.Index(i).SetZero()
		}
	}
}

// busyKernels returns kernels of whose states many moves come, of all kinds.
func busyKernels() []api.Kernel {
	placed := kernelOf(someVars, 3, "par|.seq|..clear v0|..c2 ? INT v0|.c2 ! INT 7")
	placed.Procs = []int{2, 0}
	return []api.Kernel{
		placed,
		kernelOf(someVars, 5, "par|.c1 ! INT v3[0]|.clear v3|.seq|..c0 ? INT v3[v0]|..stop|.while NOT v2|..v0, v3[1] := v0 + 1, v3[2]|.c2 ! INT v0|.seq|..c2 ? INT v3[INT v2]|..c2 ? INT v0|.if|..v0 = 0|...seq|....skip|....v0 := 1|.time v3[1]|.after - 1"),
		kernelOf(someVars, 5, "seq|.pri par|..alt|...v0 = 0 & c2 ? BYTE v4[1]|....if|...v2 & after v0|....stop|...1 & skip|....v1 := v4[v0]|..par|...c2 ! BYTE v1|...pri alt|....1 & c0 ? INT v3[v0]|.....c1 ! INT v3[v0]|....1 & c2 ? INT v0|.....skip|.while 1|..alt|...1 & c0 ? INT v0|....skip"),
		kernelOf("[2]INT", 2, "seq"),
		kernelOf("", 2, "par|.stop|.seq|..skip"),
	}
}

// busyStates calls f with states that the busy kernels reach.
func busyStates(t *testing.T, f func(k api.Kernel, s api.State)) {
	t.Helper()
	next := random(77)
	for _, k := range busyKernels() {
		for range 4 {
			walk(t, k, []int32{0, 1, 2}, 8, next, func(s api.State, _ []api.Move) { f(k, s) })
		}
	}
}

// P18.1, R6: the arguments are left as they are by all functions, with what is behind their slices.
func TestArguments(t *testing.T) {
	unchanged := func(what string, k api.Kernel, s api.State, kernel api.Kernel, state api.State) {
		t.Helper()
		if !sameMemory(kernel, withRoom(k, 2)) || !sameMemory(state, withRoom(s, 2)) {
			t.Errorf("%s changes its arguments %s, %s", what, brief(k), brief(s))
		}
	}
	check := func(k api.Kernel, s api.State) {
		kernel, state := withRoom(k, 2), withRoom(s, 2)
		step.Start(kernel, state.In)
		unchanged("Start", k, s, kernel, state)
		step.May(kernel, state)
		unchanged("May", k, s, kernel, state)
		step.Moves(kernel, state)
		unchanged("Moves", k, s, kernel, state)
		step.Done(state)
		step.Same(state, withRoom(s, 1))
		unchanged("Done or Same", k, s, kernel, state)
	}
	busyStates(t, check)
	for _, s := range append(sampleStates(), oddStates()...) {
		check(some(), s)
		check(api.Kernel{Vars: some().Vars, Chans: some().Chans, Root: s.Root}, s)
	}
}

// P18.1, R1, R6: nil and empty lists are equivalent, and what is behind the length of a slice does not count.
func TestBehindLength(t *testing.T) {
	busyStates(t, func(k api.Kernel, s api.State) {
		for room := range 3 {
			kernel, state := withRoom(k, room), withRoom(s, room)
			if !step.May(kernel, state) || !equal(step.Moves(kernel, state), step.Moves(k, s)) || step.Done(state) != step.Done(s) || !step.Same(s, state) {
				t.Errorf("%s has other moves with room behind its lists", brief(s))
			}
			a, e := step.Start(kernel, state.In)
			if b, f := step.Start(k, s.In); e != f || !equal(a, b) {
				t.Errorf("%s, %v, not %s, %v", brief(a), e, brief(b), f)
			}
		}
	})
	for _, s := range oddStates() {
		checkMay(t, some(), withRoom(s, 0), false)
		checkMay(t, some(), withRoom(s, 2), false)
	}
}

// checkOwnMemory checks that changing a result changes neither an argument nor what the next call returns.
func checkOwnMemory[T any](t *testing.T, what string, call func() T, arguments ...any) {
	t.Helper()
	got := call()
	want := withRoom(got, 0)
	var before []any
	for _, x := range arguments {
		before = append(before, extended(reflect.ValueOf(x)).Interface())
	}
	if overlap(append([]any{got}, arguments...)...) {
		t.Errorf("%s: the memory of the result is not its own", what)
	}
	erase(reflect.ValueOf(&got).Elem())
	for i, x := range arguments {
		if !sameMemory(x, before[i]) {
			t.Errorf("%s: changing the result changes an argument", what)
		}
	}
	if again := call(); !equal(again, want) {
		t.Errorf("%s: %s, and then %s", what, brief(want), brief(again))
	}
}

// P18.1, R6: the results are new memory, and no two slices in one share any.
func TestResults(t *testing.T) {
	moves := 0
	busyStates(t, func(k api.Kernel, s api.State) {
		for room := range 2 {
			kernel, state := withRoom(k, room), withRoom(s, room)
			checkOwnMemory(t, "Start", func() api.State {
				first, _ := step.Start(kernel, state.In)
				return first
			}, kernel, state)
			checkOwnMemory(t, "Moves", func() []api.Move { return step.Moves(kernel, state) }, kernel, state)
			moves += len(step.Moves(kernel, state))
		}
	})
	if moves < 300 {
		t.Error(moves)
	}
}

// P18.1, R6: changing the state after one move changes no other one.
func TestMovesApart(t *testing.T) {
	busyStates(t, func(k api.Kernel, s api.State) {
		want := step.Moves(k, s)
		for n := range want {
			l := step.Moves(k, s)
			erase(reflect.ValueOf(&l[n].Next).Elem())
			for i := range l {
				if i != n && !equal(l[i], want[i]) {
					t.Errorf("move %d of %s is changed with move %d", i, brief(s), n)
				}
			}
		}
	})
}

// P18.1, R5, R6: nothing is kept of the arguments, and a call does not depend on those before it.
func TestNothingKept(t *testing.T) {
	k := kernelOf("INT [2]INT", 3, "par|.seq|..c0 ? INT v0|..c1 ! INT v1[v0]|.v1[1] := 7")
	in := []int32{1, 2}
	s := start(t, k, in...)
	l := step.Moves(k, s)
	want := withRoom(l, 0)
	in[0] = 9
	k.Root.L[0].L[1].E[0].V = 0
	s.Store[1][1] = 5
	s.Root.L[0].L[0].To[0].V = 1
	s.In[0] = 3
	if !equal(l, want) || l[0].Event != (api.Event{V: 1}) {
		t.Errorf("%s, not %s", brief(l), brief(want))
	}
	for range 3 {
		busyStates(t, func(k api.Kernel, s api.State) {
			if got := step.Moves(k, s); !equal(got, movesByRules(s)) {
				t.Errorf("%s has the moves %s", brief(s), brief(got))
			}
		})
	}
}
