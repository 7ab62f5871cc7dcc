package kernel_test

import (
	"reflect"
	"testing"

	"transputer/api"
	"transputer/kernel"
)

// copyOf returns a copy of a value in new memory, where each slice, nil or not, has room for so many elements behind it, which look like its own.
func copyOf(v reflect.Value, room int) reflect.Value {
	r := reflect.New(v.Type()).Elem()
	r.Set(v)
	switch v.Kind() {
	case reflect.Struct:
		for i := range v.NumField() {
			r.Field(i).Set(copyOf(v.Field(i), room))
		}
	case reflect.Slice:
		r.Set(reflect.MakeSlice(v.Type(), v.Len()+room, v.Len()+room))
		for i := range v.Len() {
			r.Index(i).Set(copyOf(v.Index(i), room))
		}
		for i := v.Len(); i < r.Len() && v.Len() > 0; i++ {
			r.Index(i).Set(copyOf(v.Index(0), 0))
		}
		r.SetLen(v.Len())
	}
	return r
}

func copied[T any](x T, room int) T { return copyOf(reflect.ValueOf(x), room).Interface().(T) }

// extended returns a value with all slices as long as there is room for.
func extended(v reflect.Value) reflect.Value {
	r := reflect.New(v.Type()).Elem()
	r.Set(v)
	switch v.Kind() {
	case reflect.Struct:
		for i := range v.NumField() {
			r.Field(i).Set(extended(v.Field(i)))
		}
	case reflect.Slice:
		whole := v.Slice(0, v.Cap())
		r.Set(reflect.MakeSlice(v.Type(), v.Cap(), v.Cap()))
		for i := range v.Cap() {
			r.Index(i).Set(extended(whole.Index(i)))
		}
	}
	return r
}

// sameMemory tells whether two values are equal, what is behind their slices included.
func sameMemory(a, b any) bool {
	return reflect.DeepEqual(extended(reflect.ValueOf(a)).Interface(), extended(reflect.ValueOf(b)).Interface())
}

// piece is the memory of a slice.
type piece struct{ begin, end uintptr }

// pieces returns the memory of all slices in a value.
func pieces(v reflect.Value) (l []piece) {
	switch v.Kind() {
	case reflect.Struct:
		for i := range v.NumField() {
			l = append(l, pieces(v.Field(i))...)
		}
	case reflect.Slice:
		if size := uintptr(v.Cap()) * v.Type().Elem().Size(); size > 0 {
			l = append(l, piece{v.Pointer(), v.Pointer() + size})
		}
		for i := range v.Len() {
			l = append(l, pieces(v.Index(i))...)
		}
	}
	return l
}

func overlap(a, b []piece) bool {
	for _, x := range a {
		for _, y := range b {
			if x.begin < y.end && y.begin < x.end {
				return true
			}
		}
	}
	return false
}

// erase sets everything in a value to zero, what is behind its slices included.
func erase(v reflect.Value) {
	if v.Kind() != reflect.Slice && v.Kind() != reflect.Struct {
		return
	}
	if v.Kind() == reflect.Struct {
		for i := range v.NumField() {
			erase(v.Field(i))
		}
		return
	}
	for i := range v.Len() {
		erase(v.Index(i))
	}
	whole := v.Slice(0, v.Cap())
	for i := range whole.Len() {
		whole.Index(i).SetZero()
	}
}

// programs are programs with all kinds of processes and specifications; the last ones cannot be elaborated.
func programs() []api.Process {
	return []api.Process{
		proc("PROTOCOL q|.CASE|..a|..b; INT; BYTE|:|CHAN OF q c:|[2]CHAN OF INT e:|INT x, y:|BYTE z:|[4]INT v:|PAR|.SEQ|..c ! b; y; 'a'|..c ! a|.c ? CASE|..a|...e[1] ! 1|..b; x; z|...e[0] ? v[x]"),
		proc("PROC p(INT x, VAL BYTE y, CHAN OF INT c, [4]INT w)|.VAL INT k IS 3:|.ALT i = 0 FOR 3|..(x = i) & c ? w[k]|...x := INT y|:|INT a, i:|[4]INT v:|[2]INT u:|INT n IS u[i]:|SEQ|.p(n, 'a', from.host, v)|.p(a, BYTE n, from.host, v)"),
		proc("CHAN OF INT c:|PLACED PAR|.PROCESSOR 3|..c ! 3|.PROCESSOR 1|..INT x:|..c ? x"),
		proc("TIMER t:|INT n:|PRI PAR|.PRI ALT|..t ? AFTER n|...SKIP|..TRUE & SKIP|...t ? n|.CASE n + 1|..1, 2, 3|...STOP|..ELSE|...WHILE n > 0|....n := n - 1"),
		proc("INT n:|SEQ|.from.host ? n|.SEQ i = n FOR n|..IF j = 0 FOR 2|...j = i|....to.host ! i"),
		proc("SKIP"),
		proc("SEQ"),
		proc("INT n:|PAR i = 0 FOR n|.SKIP"),
		proc("INT n:|CASE n|.1, 1|..SKIP"),
		proc("to.host ? n"),
		proc("INT n:|to.host ? n"),
	}
}

// P16.2, R6: the program is left as it is, with what is behind its slices, and the kernel is new memory of its own.
func TestMakeMemory(t *testing.T) {
	made := 0
	for _, x := range programs() {
		p, was := copied(x, 2), copied(x, 2)
		k, e := kernel.Make(p)
		if !sameMemory(p, was) {
			t.Errorf("%s has been changed", shown(x))
		}
		if e != api.OK {
			continue
		}
		made++
		l := pieces(reflect.ValueOf(k))
		for i := range l {
			if overlap(l[i:i+1], l[i+1:]) || overlap(l[i:i+1], pieces(reflect.ValueOf(p))) {
				t.Errorf("two slices of the kernel of %s share memory", shown(x))
			}
		}
		want := copied(k, 0)
		erase(reflect.ValueOf(&k).Elem())
		if !sameMemory(p, was) {
			t.Errorf("%s has been changed by changing what was returned", shown(x))
		}
		if again, f := kernel.Make(p); f != api.OK || !kernel.Same(again, want) {
			t.Errorf("Make(%s) = %v, and then %v, %v", shown(x), want, again, f)
		}
	}
	if made < 7 {
		t.Error(made)
	}
}

// P16.1, P16.3, R6: kernels are left as they are by all functions.
func TestMemory(t *testing.T) {
	for _, x := range append(samples(), odd()...) {
		k, was := copied(x, 2), copied(x, 2)
		kernel.May(k)
		kernel.Size(k.Root)
		kernel.Same(k, copied(x, 1))
		kernel.Text(k)
		if !sameMemory(k, was) {
			t.Errorf("%v has been changed", x)
		}
	}
}

// P16.1, P16.3, R1: nil and empty lists are equivalent.
func TestEmptyLists(t *testing.T) {
	for _, x := range append(samples(), odd()...) {
		text, e := kernel.Text(x)
		for room := range 2 {
			k := copied(x, room)
			if s, f := kernel.Text(k); s != text || f != e || kernel.May(k) != kernel.May(x) || kernel.Size(k.Root) != kernel.Size(x.Root) {
				t.Errorf("%v: %q, %v, not %q, %v", x, s, f, text, e)
			}
		}
	}
	for _, x := range programs() {
		want, e := kernel.Make(x)
		for room := range 2 {
			if k, f := kernel.Make(copied(x, room)); f != e || !kernel.Same(k, want) {
				t.Errorf("Make(%s) = %v, %v, not %v, %v", shown(x), k, f, want, e)
			}
		}
	}
}

// P16.2, R5: the same call returns the same, whatever was called before.
func TestRepeated(t *testing.T) {
	for range 3 {
		for _, x := range programs() {
			want, e := makeByRules(x)
			if k, f := kernel.Make(x); f != e || !kernel.Same(k, want) {
				t.Errorf("Make(%s) = %v, %v, not %v, %v", shown(x), k, f, want, e)
			}
		}
	}
}
