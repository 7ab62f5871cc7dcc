package scope_test

import (
	"cmp"
	"reflect"
	"slices"
	"strings"
	"testing"

	"transputer/api"
	"transputer/scope"
	"transputer/syntax"
)

// copyOf returns a copy of a value in new memory, where each slice, nil or not, has room for so many elements behind it, which look like its own.
func copyOf(v reflect.Value, room int) reflect.Value {
	r := reflect.New(v.Type()).Elem()
	r.Set(v)
	switch v.Kind() {
	case reflect.Struct:
		for i := range v.NumField() {
			r.Field(i).Set(copyOf(v.Field(i), room))
		}
	case reflect.Slice:
		r.Set(reflect.MakeSlice(v.Type(), v.Len()+room, v.Len()+room))
		for i := range v.Len() {
			r.Index(i).Set(copyOf(v.Index(i), room))
		}
		for i := v.Len(); i < r.Len() && v.Len() > 0; i++ {
			r.Index(i).Set(copyOf(v.Index(0), 0))
		}
		r.SetLen(v.Len())
	}
	return r
}

func copied(p api.Process) api.Process {
	return copyOf(reflect.ValueOf(p), 0).Interface().(api.Process)
}

func roomy(p api.Process) api.Process {
	return copyOf(reflect.ValueOf(p), 2).Interface().(api.Process)
}

// extended returns a value with all slices as long as there is room for.
func extended(v reflect.Value) reflect.Value {
	r := reflect.New(v.Type()).Elem()
	r.Set(v)
	switch v.Kind() {
	case reflect.Struct:
		for i := range v.NumField() {
			r.Field(i).Set(extended(v.Field(i)))
		}
	case reflect.Slice:
		whole := v.Slice(0, v.Cap())
		r.Set(reflect.MakeSlice(v.Type(), v.Cap(), v.Cap()))
		for i := range v.Cap() {
			r.Index(i).Set(extended(whole.Index(i)))
		}
	}
	return r
}

// sameMemory tells whether two values are equal, what is behind their slices included.
func sameMemory(a, b api.Process) bool {
	return reflect.DeepEqual(extended(reflect.ValueOf(a)).Interface(), extended(reflect.ValueOf(b)).Interface())
}

// piece is the memory of a slice, with what is behind its length.
type piece struct{ begin, end uintptr }

// pieces returns the memory of all slices in a value.
func pieces(v reflect.Value) (l []piece) {
	switch v.Kind() {
	case reflect.Struct:
		for i := range v.NumField() {
			l = append(l, pieces(v.Field(i))...)
		}
	case reflect.Slice:
		if v.Cap() > 0 {
			l = append(l, piece{v.Pointer(), v.Pointer() + uintptr(v.Cap())*v.Type().Elem().Size()})
		}
		for i := range v.Len() {
			l = append(l, pieces(v.Index(i))...)
		}
	}
	return l
}

// overlap tells whether two slices in the values share memory.
func overlap(values ...any) bool {
	var l []piece
	for _, x := range values {
		l = append(l, pieces(reflect.ValueOf(x))...)
	}
	slices.SortFunc(l, func(a, b piece) int { return cmp.Compare(a.begin, b.begin) })
	for i := 1; i < len(l); i++ {
		if l[i-1].end > l[i].begin {
			return true
		}
	}
	return false
}

// cleared sets all that is in the slices of a value to zero, what is behind their length included.
func cleared(v reflect.Value) {
	switch v.Kind() {
	case reflect.Struct:
		for i := range v.NumField() {
			cleared(v.Field(i))
		}
	case reflect.Slice:
		whole := v.Slice(0, v.Cap())
		for i := range v.Cap() {
			cleared(whole.Index(i))
			whole.Index(i).SetZero()
		}
	}
}

// samples are processes with all kinds of lists, among them an output with a tag.
func samples() []api.Process {
	l := []api.Process{
		proc(withAB + "[2]CHAN OF q c, e:/INT x, y:/SEQ/.c[x] ! a; v[x]; y/.c[y] ! b/.c[x] ! 1; x/.e[x + y] ? CASE/..a; x; v[z]/...x, y := y, (SIZE v) + x/..b/...SKIP"),
		proc("PROC p(INT x, VAL BYTE y, CHAN OF r c)/.ALT/..x & c ? x; z/...z := x/..x & SKIP/...SKIP/..t ? AFTER x + z/...STOP/:/CASE x + (y * z)/.x, y/..p(x, y, c)/.ELSE/..PAR i = x FOR v[y]/...p(i, z, w)"),
		proc("PLACED PAR/.PROCESSOR 3/..VAL INT x IS y + z:/..x := y/.PROCESSOR 1/..INT x IS v[z]:/..x := n1"),
		proc("PROTOCOL q IS INT; BYTE:/[4]CHAN OF q c:/PRI ALT i = x FOR y/.i & c[i] ? x; v[i]/..IF/...x = i/....WHILE x/.....SKIP"),
		proc("SKIP"),
		{Kind: api.PrSeq, L: []api.Process{{Kind: api.PrIf}, {Kind: api.PrAlt}, {Kind: api.PrCall, Name: "p"}}},
	}
	return l
}

// P12.1, R6: what is returned shares no memory with anything, and the arguments are left as they are, with what is behind their slices.
func TestMemory(t *testing.T) {
	for _, x := range samples() {
		p, was := roomy(x), roomy(x)
		names := append(make([]string, 0, 9), "x", "y")
		q, _ := scope.Unique(p)
		free, _ := scope.Free(p)
		scope.Check(p, names)
		scope.Alike(p, p)
		if !sameMemory(p, was) || !slices.Equal(names[:3], []string{"x", "y", ""}) {
			t.Errorf("%s has been changed", shown(x))
		}
		again, _ := scope.Unique(p)
		freeAgain, _ := scope.Free(p)
		if overlap(p, q, again, free, freeAgain) {
			t.Errorf("slices of Unique(%s) share memory", shown(x))
		}
		cleared(reflect.ValueOf(&q).Elem())
		cleared(reflect.ValueOf(&free).Elem())
		want, _ := uniqueByRules(x)
		if !sameMemory(p, was) || !syntax.Same(again, want) || !slices.Equal(freeAgain, freeByRules(readerOf(&was))) {
			t.Errorf("%s has been changed by changing what was returned", shown(x))
		}
		checkUnique(t, p, want)
		checkFree(t, p, strings.Join(freeAgain, " "))
		cleared(reflect.ValueOf(&p).Elem())
		if !syntax.Same(again, want) {
			t.Errorf("Unique(%s) has been changed by changing the argument", shown(x))
		}
	}
}

// P12.1, R1: nil and empty lists are equivalent.
func TestEmptyLists(t *testing.T) {
	for _, x := range samples() {
		for _, p := range []api.Process{copied(x), roomy(x)} {
			want, _ := uniqueByRules(x)
			checkUnique(t, p, want)
			checkAlike(t, p, x, true)
			l, e := scope.Free(p)
			if m, f := scope.Free(x); !slices.Equal(l, m) || e != api.OK || f != api.OK {
				t.Errorf("Free(%s) = %q, %d and %q, %d", shown(x), l, e, m, f)
			}
		}
	}
}
