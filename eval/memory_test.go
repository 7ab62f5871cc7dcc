package eval_test

import (
	"reflect"
	"testing"

	"transputer/api"
	"transputer/eval"
)

// roomy returns a copy of a value in new memory, where each slice, nil or not, has room for so many elements behind it, which look like its own.
func roomy(v reflect.Value, room int) reflect.Value {
	r := reflect.New(v.Type()).Elem()
	r.Set(v)
	switch v.Kind() {
	case reflect.Struct:
		for i := range v.NumField() {
			r.Field(i).Set(roomy(v.Field(i), room))
		}
	case reflect.Slice:
		r.Set(reflect.MakeSlice(v.Type(), v.Len()+room, v.Len()+room))
		for i := range v.Len() {
			r.Index(i).Set(roomy(v.Index(i), room))
		}
		for i := v.Len(); i < r.Len() && v.Len() > 0; i++ {
			r.Index(i).Set(roomy(v.Index(0), 0))
		}
		r.SetLen(v.Len())
	}
	return r
}

func withRoom[T any](x T, room int) T { return roomy(reflect.ValueOf(x), room).Interface().(T) }

// extended returns a value with all slices as long as there is room for.
func extended(v reflect.Value) reflect.Value {
	r := reflect.New(v.Type()).Elem()
	r.Set(v)
	switch v.Kind() {
	case reflect.Struct:
		for i := range v.NumField() {
			r.Field(i).Set(extended(v.Field(i)))
		}
	case reflect.Slice:
		whole := v.Slice(0, v.Cap())
		r.Set(reflect.MakeSlice(v.Type(), v.Cap(), v.Cap()))
		for i := range v.Cap() {
			r.Index(i).Set(extended(whole.Index(i)))
		}
	}
	return r
}

// sameMemory tells whether two values are equal, what is behind their slices included.
func sameMemory(a, b any) bool {
	return reflect.DeepEqual(extended(reflect.ValueOf(a)).Interface(), extended(reflect.ValueOf(b)).Interface())
}

// piece is the memory of a slice, with what is behind its length.
type piece struct{ begin, end uintptr }

// pieces returns the memory of all slices in a value.
func pieces(v reflect.Value) (l []piece) {
	if v.Kind() != reflect.Slice {
		return nil
	}
	if v.Cap() > 0 {
		l = append(l, piece{v.Pointer(), v.Pointer() + uintptr(v.Cap())*v.Type().Elem().Size()})
	}
	for i := range v.Len() {
		l = append(l, pieces(v.Index(i))...)
	}
	return l
}

// overlap tells whether two slices in the values share memory.
func overlap(values ...any) bool {
	var l []piece
	for _, x := range values {
		l = append(l, pieces(reflect.ValueOf(x))...)
	}
	for i, a := range l {
		for _, b := range l[:i] {
			if a.begin < b.end && b.begin < a.end {
				return true
			}
		}
	}
	return false
}

// erase sets all elements of a store, what is behind its slices included, to a number, and its lists to nil.
func erase(s [][]int32) {
	s = s[:cap(s)]
	for v, l := range s {
		for i := range l[:cap(l)] {
			l[:cap(l)][i] = 77
		}
		s[v] = nil
	}
}

// P17.1, P17.2, P17.3, R6: the arguments are left as they are, with what is behind their slices.
func TestArguments(t *testing.T) {
	some(21, 3000, 20, func(s [][]int32, x api.KExpr, _ api.TypeKind, next func(int) int) {
		k := kernelOf(someVars)
		place := api.KPlace{V: next(len(s) + 1), Index: []api.KExpr{x}}
		store, expr, p := withRoom(s, 2), withRoom(x, 2), withRoom(place, 2)
		unchanged := func(what string) {
			t.Helper()
			if !sameMemory(store, withRoom(s, 2)) || !sameMemory(expr, withRoom(x, 2)) || !sameMemory(p, withRoom(place, 2)) {
				t.Errorf("%s changes its arguments %s, %s", what, brief(s), brief(x))
			}
		}
		eval.Value(store, expr)
		unchanged("Value")
		eval.Place(store, p)
		unchanged("Place")
		eval.Put(store, next(len(s)+1), next(3), 1000)
		unchanged("Put")
		eval.May(withRoom(k, 1), store)
		eval.Same(store, withRoom(s, 1))
		unchanged("May or Same")
	})
	k := kernelOf(someVars)
	before := withRoom(k, 2)
	eval.Store(before)
	eval.May(before, eval.Store(before))
	if !sameMemory(before, withRoom(k, 2)) {
		t.Error("Store or May changes the kernel")
	}
}

// P17.1, R6: what is behind the length of a slice does not count.
func TestBehindLength(t *testing.T) {
	k := withRoom(kernelOf("INT [2]BYTE"), 3)
	for _, text := range []string{"0; 0 0", "7; 1 2; 5", "7; 300 2", "7 7; 1 2", "5", "", ";"} {
		s := withRoom(storeOf(text), 3)
		checkMay(t, k, s, mayByRules(k, storeOf(text)))
		checkSame(t, s, storeOf(text), true)
		for _, x := range []string{"v0", "v1[1]", "v1[2]", "v2", "v0[1]"} {
			checkByRules(t, s, kexpr(x))
			if v, ok := eval.Value(s, kexpr(x)); ok {
				checkValue(t, storeOf(text), kexpr(x), v)
			} else {
				checkFault(t, storeOf(text), kexpr(x))
			}
		}
		checkStore(t, "Put", eval.Put(s, len(s), 0, 9), storeOf(text))
		for v, l := range s {
			checkStore(t, "Put", eval.Put(s, v, len(l), 9), storeOf(text))
			checkPlace(t, s, api.KPlace{V: v, Index: []api.KExpr{number(int32(len(l)))}}, 0, 0, false)
		}
		checkPlace(t, s, api.KPlace{V: len(s)}, 0, 0, false)
	}
	checkStore(t, "Store", eval.Store(k), storeOf("0; 0 0"))
	index := []api.KExpr{number(1), number(0)}
	checkPlace(t, storeOf("5 6"), api.KPlace{Index: index[:1]}, 0, 1, true)
	checkPlace(t, storeOf("5 6"), api.KPlace{Index: index[:0]}, 0, 0, true)
}

// checkOwnMemory checks that a result of a call shares no memory with its arguments, nor within itself, and that changing
// it changes neither an argument nor what the next call returns.
func checkOwnMemory(t *testing.T, what string, call func() [][]int32, arguments ...any) {
	t.Helper()
	s := call()
	want := withRoom(s, 0)
	var before []any
	for _, x := range arguments {
		before = append(before, extended(reflect.ValueOf(x)).Interface())
	}
	if overlap(s) || overlap(append([]any{s}, arguments...)...) {
		t.Errorf("%s: the memory of the result is not its own", what)
	}
	erase(s)
	for i, x := range arguments {
		if !sameMemory(x, before[i]) {
			t.Errorf("%s: changing the result changes an argument", what)
		}
	}
	checkStore(t, what+", once more", call(), want)
}

// P17.1, R6: the results of Store and Put are new memory.
func TestResults(t *testing.T) {
	for _, vars := range []string{"", "INT", "BYTE BOOL INT", "[3]INT INT [64]BYTE [1]BOOL", someVars} {
		k := kernelOf(vars)
		checkOwnMemory(t, "Store of "+vars, func() [][]int32 { return eval.Store(k) })
	}
	for _, text := range []string{"", "5", ";", "7; 1 2 3;; 0", "1 2; 3 4; 5 6"} {
		for room := range 3 {
			s := withRoom(storeOf(text), room)
			for v := -1; v < 4; v++ {
				for i := -1; i < 4; i++ {
					checkOwnMemory(t, "Put to "+text, func() [][]int32 { return eval.Put(s, v, i, 9) }, s)
				}
			}
		}
	}
}

// P17.1, P17.2, R5, R6: nothing is kept of the arguments.
func TestNothingKept(t *testing.T) {
	s := storeOf("7; 1 2 3")
	put := eval.Put(s, 1, 1, 9)
	x := kexpr("v1[v0 - 5]")
	checkValue(t, s, x, 3)
	s[1][2] = 30
	checkValue(t, s, x, 30)
	s[0][0] = 6
	checkValue(t, s, x, 2)
	x.L[0].L[1].N = 6
	checkValue(t, s, x, 1)
	checkStore(t, "Put", put, storeOf("7; 1 9 3"))
	erase(s)
	checkStore(t, "Put", put, storeOf("7; 1 9 3"))
	k := kernelOf("INT [3]BYTE")
	made := eval.Store(k)
	k.Vars[1].Dim = 2
	checkStore(t, "Store", made, storeOf("0; 0 0 0"))
	checkMay(t, k, made, false)
}

// P17.1, P17.2, P17.3, R1, R5: nil and empty slices are equivalent, and a call does not depend on those before it.
func TestEmptySlices(t *testing.T) {
	for range 2 {
		for _, s := range [][][]int32{nil, {}, storeOf("5")[:0]} {
			checkValue(t, s, api.KExpr{Kind: api.KxNumber, N: 3, L: []api.KExpr{}}, 3)
			checkFault(t, s, variable(0))
			checkPlace(t, s, api.KPlace{}, 0, 0, false)
			checkStore(t, "Put", eval.Put(s, 0, 0, 1), nil)
			checkMay(t, api.Kernel{}, s, true)
			checkMay(t, api.Kernel{Vars: []api.Var{}}, s, true)
			checkSame(t, s, nil, true)
		}
		for _, s := range [][][]int32{{nil, {4}}, {{}, {4}}, {make([]int32, 0, 3), {4}}} {
			checkFault(t, s, variable(0))
			checkValue(t, s, api.KExpr{Kind: api.KxVar, V: 1, L: []api.KExpr{}}, 4)
			checkPlace(t, s, api.KPlace{V: 1, Index: []api.KExpr{}}, 1, 0, true)
			checkStore(t, "Put", eval.Put(s, 0, 0, 1), storeOf(";4"))
			checkMay(t, kernelOf("INT INT"), s, false)
			checkSame(t, s, storeOf(";4"), true)
		}
	}
	if s := eval.Store(api.Kernel{}); len(s) != 0 {
		t.Error("Store of no variables:", s)
	}
}
