package typing_test

import (
	"reflect"
	"testing"

	"transputer/api"
	"transputer/typing"
)

// roomy returns a copy of a value in new memory, where each slice, nil or not, has room for so many elements behind it, which look like its own.
func roomy(v reflect.Value, room int) reflect.Value {
	r := reflect.New(v.Type()).Elem()
	r.Set(v)
	switch v.Kind() {
	case reflect.Struct:
		for i := range v.NumField() {
			r.Field(i).Set(roomy(v.Field(i), room))
		}
	case reflect.Slice:
		r.Set(reflect.MakeSlice(v.Type(), v.Len()+room, v.Len()+room))
		for i := range v.Len() {
			r.Index(i).Set(roomy(v.Index(i), room))
		}
		for i := v.Len(); i < r.Len() && v.Len() > 0; i++ {
			r.Index(i).Set(roomy(v.Index(0), 0))
		}
		r.SetLen(v.Len())
	}
	return r
}

func withRoom[T any](x T) T { return roomy(reflect.ValueOf(x), 2).Interface().(T) }

// extended returns a value with all slices as long as there is room for.
func extended(v reflect.Value) reflect.Value {
	r := reflect.New(v.Type()).Elem()
	r.Set(v)
	switch v.Kind() {
	case reflect.Struct:
		for i := range v.NumField() {
			r.Field(i).Set(extended(v.Field(i)))
		}
	case reflect.Slice:
		whole := v.Slice(0, v.Cap())
		r.Set(reflect.MakeSlice(v.Type(), v.Cap(), v.Cap()))
		for i := range v.Cap() {
			r.Index(i).Set(extended(whole.Index(i)))
		}
	}
	return r
}

// sameMemory tells whether two values are equal, what is behind their slices included.
func sameMemory[T any](a, b T) bool {
	return reflect.DeepEqual(extended(reflect.ValueOf(a)).Interface(), extended(reflect.ValueOf(b)).Interface())
}

// cleared sets all that is in the slices of a value to zero, what is behind their length included.
func cleared(v reflect.Value) {
	switch v.Kind() {
	case reflect.Struct:
		for i := range v.NumField() {
			cleared(v.Field(i))
		}
	case reflect.Slice:
		whole := v.Slice(0, v.Cap())
		for i := range v.Cap() {
			cleared(whole.Index(i))
			whole.Index(i).SetZero()
		}
	}
}

// P13.1, P13.2, R6: the arguments are left as they are, with what is behind their slices, and nothing is kept of them.
func TestArguments(t *testing.T) {
	someProcesses(8, 500, func(x api.Process, around []api.Spec, next func(int) int) {
		p, l := withRoom(x), withRoom(around)
		want := checkByRules(x, around)
		checkProcess(t, p, l, want)
		if !sameMemory(p, withRoom(x)) || !sameMemory(l, withRoom(around)) {
			t.Errorf("%s has been changed", shown(x))
		}
		cleared(reflect.ValueOf(&p).Elem())
		cleared(reflect.ValueOf(&l).Elem())
		checkProcess(t, x, around, want)
		checkProcess(t, x, withRoom(around), want)
	})
	someExprs(9, 500, func(y api.Expr, around []api.Spec, next func(int) int) {
		x, l := withRoom(y), withRoom(around)
		want, e := typing.Of(x, l)
		if !sameMemory(x, withRoom(y)) || !sameMemory(l, withRoom(around)) {
			t.Errorf("%s has been changed", exprText(y))
		}
		got := want
		got.Kind, got.Dim, got.Proto = 77, -1, "changed"
		checkOutcome(t, x, l, want, e)
		cleared(reflect.ValueOf(&x).Elem())
		cleared(reflect.ValueOf(&l).Elem())
		checkOutcome(t, y, around, want, e)
	})
}

// P13.1, P13.2, R6: what is behind an environment's length, or behind the names in it, is not in it.
func TestBehindLength(t *testing.T) {
	l := env("INT x:/BYTE y:/BOOL x:")
	checkOf(t, "x", l, "BOOL")
	checkOf(t, "x", l[:2], "INT")
	checkOf(t, "y", l[:1], "scope")
	checkAll(t, l[:2], api.OK, "x := 1", "BYTE z:/y := z")
	checkAll(t, l[:1], api.ErrScope, "y := 'a'")
	names := []string{"x", "y", "z"}
	l = []api.Spec{named(api.SpDeclare, typ("INT"), names[:1]...), named(api.SpDeclare, typ("BYTE"), names[:2]...)}
	checkOf(t, "z", l, "scope")
	checkOf(t, "x", l, "BYTE")
	checkOf(t, "y", l[:1], "scope")
}

// P13.1, P13.2, R1, R5: nil and empty slices are equivalent, and a call does not depend on those before it.
func TestEmptySlices(t *testing.T) {
	empty := func(p api.Process) api.Process { return roomy(reflect.ValueOf(p), 0).Interface().(api.Process) }
	for range 2 {
		for _, l := range [][]api.Spec{nil, {}, make([]api.Spec, 0, 3), env("INT i:")[:0]} {
			checkProcess(t, empty(proc("INT x:/SEQ/.x := 1/.SKIP")), l, api.OK)
			checkProcess(t, empty(proc("i := 1")), l, api.ErrScope)
			checkProcess(t, api.Process{Kind: api.PrIf, Guards: []api.Guard{}, Targets: []api.Expr{}}, l, api.OK)
			checkProcess(t, api.Process{Kind: api.PrSeq}, l, api.OK)
			checkType(t, api.Expr{Kind: api.ExNumber, L: []api.Expr{}}, l, typ("INT"))
			checkOf(t, "i", l, "scope")
		}
		checkOf(t, "i", env("INT i:"), "INT")
		checkAll(t, env("INT i:"), api.OK, "i := 1")
	}
}
