package fold_test

import (
	"cmp"
	"reflect"
	"slices"
	"testing"

	"transputer/api"
	"transputer/fold"
)

// roomy returns a copy of a value in new memory, where each slice, nil or not, has room for so many elements behind it, which look like its own.
func roomy(v reflect.Value, room int) reflect.Value {
	r := reflect.New(v.Type()).Elem()
	r.Set(v)
	switch v.Kind() {
	case reflect.Struct:
		for i := range v.NumField() {
			r.Field(i).Set(roomy(v.Field(i), room))
		}
	case reflect.Slice:
		r.Set(reflect.MakeSlice(v.Type(), v.Len()+room, v.Len()+room))
		for i := range v.Len() {
			r.Index(i).Set(roomy(v.Index(i), room))
		}
		for i := v.Len(); i < r.Len() && v.Len() > 0; i++ {
			r.Index(i).Set(roomy(v.Index(0), 0))
		}
		r.SetLen(v.Len())
	}
	return r
}

func withRoom[T any](x T) T { return roomy(reflect.ValueOf(x), 2).Interface().(T) }

// extended returns a value with all slices as long as there is room for.
func extended(v reflect.Value) reflect.Value {
	r := reflect.New(v.Type()).Elem()
	r.Set(v)
	switch v.Kind() {
	case reflect.Struct:
		for i := range v.NumField() {
			r.Field(i).Set(extended(v.Field(i)))
		}
	case reflect.Slice:
		whole := v.Slice(0, v.Cap())
		r.Set(reflect.MakeSlice(v.Type(), v.Cap(), v.Cap()))
		for i := range v.Cap() {
			r.Index(i).Set(extended(whole.Index(i)))
		}
	}
	return r
}

// sameMemory tells whether two values are equal, what is behind their slices included.
func sameMemory[T any](a, b T) bool {
	return reflect.DeepEqual(extended(reflect.ValueOf(a)).Interface(), extended(reflect.ValueOf(b)).Interface())
}

// cleared sets all that is in the slices of a value to zero, what is behind their length included.
func cleared(v reflect.Value) {
	switch v.Kind() {
	case reflect.Struct:
		for i := range v.NumField() {
			cleared(v.Field(i))
		}
	case reflect.Slice:
		whole := v.Slice(0, v.Cap())
		for i := range v.Cap() {
			cleared(whole.Index(i))
			whole.Index(i).SetZero()
		}
	}
}

// piece is the memory of a slice, with what is behind its length.
type piece struct{ begin, end uintptr }

// pieces returns the memory of all slices in a value.
func pieces(v reflect.Value) (l []piece) {
	switch v.Kind() {
	case reflect.Struct:
		for i := range v.NumField() {
			l = append(l, pieces(v.Field(i))...)
		}
	case reflect.Slice:
		if v.Cap() > 0 {
			l = append(l, piece{v.Pointer(), v.Pointer() + uintptr(v.Cap())*v.Type().Elem().Size()})
		}
		for i := range v.Len() {
			l = append(l, pieces(v.Index(i))...)
		}
	}
	return l
}

// overlap tells whether two slices in the values share memory.
func overlap(values ...any) bool {
	var l []piece
	for _, x := range values {
		l = append(l, pieces(reflect.ValueOf(x))...)
	}
	slices.SortFunc(l, func(a, b piece) int { return cmp.Compare(a.begin, b.begin) })
	for i := 1; i < len(l); i++ {
		if l[i-1].end > l[i].begin {
			return true
		}
	}
	return false
}

// P14.2, P14.3, R6: the arguments are left as they are, with what is behind their slices, and nothing is kept of them;
// what Fold returns is new memory.
func TestMemory(t *testing.T) {
	some(4, 3000, func(x api.Expr, l []api.Spec, next func(int) int) {
		y, around := withRoom(x), withRoom(l)
		want := foldByRules(x, l)
		v, e := fold.Const(y, around)
		folded, _ := fold.Fold(y, around)
		if !sameMemory(y, withRoom(x)) || !sameMemory(around, withRoom(l)) {
			t.Errorf("%s has been changed", exprText(x))
		}
		if overlap(folded, y, around) {
			t.Errorf("the memory of Fold(%s) is not new", exprText(x))
		}
		cleared(reflect.ValueOf(&folded).Elem())
		checkFold(t, y, around, want)
		kept, _ := fold.Fold(y, around)
		cleared(reflect.ValueOf(&y).Elem())
		cleared(reflect.ValueOf(&around).Elem())
		if !reflect.DeepEqual(withRoom(kept), withRoom(want)) {
			t.Errorf("the memory of Fold(%s) is kept elsewhere", exprText(x))
		}
		checkFold(t, x, l, want)
		if w, f := fold.Const(x, l); v != w || e != f {
			t.Errorf("Const(%s) = %d, %d, and before %d, %d", exprText(x), w, f, v, e)
		}
	})
}

// P14.2, R6: what is behind the length of an environment, or of the names of a specification, is not in it.
func TestBehindLength(t *testing.T) {
	l := env("VAL INT x IS 1:/VAL INT y IS x:/VAL INT x IS 2:")
	checkConst(t, l, map[string]int32{"x": 2, "y": 1})
	checkConst(t, l[:2], map[string]int32{"x": 1, "y": 1})
	checkConst(t, l[:1], map[string]int32{"x": 1}, "y")
	names := []string{"x", "y", "z"}
	l = []api.Spec{spec(api.SpVal, api.TyInt, number(1), names[:2]...), spec(api.SpVal, api.TyInt, number(2), names[:1]...)}
	checkConst(t, l, map[string]int32{"x": 2, "y": 1}, "z")
}

// P14.2, P14.3, R1, R5: nil and empty slices are equivalent, and a call does not depend on those before it.
func TestEmptySlices(t *testing.T) {
	for range 2 {
		for _, l := range [][]api.Spec{nil, {}, env("VAL INT x IS 1:")[:0]} {
			checkConst(t, l, map[string]int32{"7": 7}, "x")
			checkValue(t, api.Expr{Kind: api.ExNumber, N: 3, L: []api.Expr{}}, l, 3)
			checkFold(t, api.Expr{Kind: api.ExName, S: "x", L: []api.Expr{}}, l, value("x"))
		}
		checkConst(t, env("VAL INT x IS 1:"), map[string]int32{"x": 1}, "y")
	}
}
