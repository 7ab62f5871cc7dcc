package alias_test

import (
	"reflect"
	"strings"
	"testing"

	"transputer/alias"
	"transputer/api"
)

// copyOf returns a copy of a value in new memory, where each slice, nil or not, has room for so many elements behind it, which look like its own.
func copyOf(v reflect.Value, room int) reflect.Value {
	r := reflect.New(v.Type()).Elem()
	r.Set(v)
	switch v.Kind() {
	case reflect.Struct:
		for i := range v.NumField() {
			r.Field(i).Set(copyOf(v.Field(i), room))
		}
	case reflect.Slice:
		r.Set(reflect.MakeSlice(v.Type(), v.Len()+room, v.Len()+room))
		for i := range v.Len() {
			r.Index(i).Set(copyOf(v.Index(i), room))
		}
		for i := v.Len(); i < r.Len() && v.Len() > 0; i++ {
			r.Index(i).Set(copyOf(v.Index(0), 0))
		}
		r.SetLen(v.Len())
	}
	return r
}

func copied(p api.Process, room int) api.Process {
	return copyOf(reflect.ValueOf(p), room).Interface().(api.Process)
}

// extended returns a value with all slices as long as there is room for.
func extended(v reflect.Value) reflect.Value {
	r := reflect.New(v.Type()).Elem()
	r.Set(v)
	switch v.Kind() {
	case reflect.Struct:
		for i := range v.NumField() {
			r.Field(i).Set(extended(v.Field(i)))
		}
	case reflect.Slice:
		whole := v.Slice(0, v.Cap())
		r.Set(reflect.MakeSlice(v.Type(), v.Cap(), v.Cap()))
		for i := range v.Cap() {
			r.Index(i).Set(extended(whole.Index(i)))
		}
	}
	return r
}

// sameMemory tells whether two values are equal, what is behind their slices included.
func sameMemory(a, b api.Process) bool {
	return reflect.DeepEqual(extended(reflect.ValueOf(a)).Interface(), extended(reflect.ValueOf(b)).Interface())
}

// holds tells whether a value has a slice with the memory of this list of names.
func holds(v reflect.Value, l []string) bool {
	switch v.Kind() {
	case reflect.Struct:
		for i := range v.NumField() {
			if holds(v.Field(i), l) {
				return true
			}
		}
	case reflect.Slice:
		begin, end := v.Pointer(), v.Pointer()+uintptr(v.Cap())*v.Type().Elem().Size()
		if at := reflect.ValueOf(l).Pointer(); v.Cap() > 0 && begin <= at && at < end {
			return true
		}
		for i := range v.Len() {
			if holds(v.Index(i), l) {
				return true
			}
		}
	}
	return false
}

// samples are processes with all kinds of lists; the last ones break a rule or declare a name twice.
func samples() []api.Process {
	return []api.Process{
		proc("PROTOCOL q/.CASE/..a/..b; INT/:/[2]CHAN OF q c, e:/INT x, y:/SEQ/.c[x] ! b; y/.c[y] ! a/.e[x + y] ? CASE/..a; x; v[z]/...x, y := y, (SIZE v) + x/..b/...SKIP"),
		proc("PROC p(INT x, VAL BYTE y, CHAN OF r c)/.ALT/..x & c ? x; z/...z := x/..x & SKIP/...SKIP/..t ? AFTER x + z/...STOP/:/CASE x + (y * w)/.x, y/..p(x, y, c)/.ELSE/..PAR i = x FOR v[y]/...p(v, i, w)"),
		proc("PLACED PAR/.PROCESSOR 3/..VAL INT x IS y + z:/..w := x/.PROCESSOR 1/..INT x IS v[z]:/..x := n1"),
		proc("PRI ALT i = x FOR y/.i & c[i] ? x; v[i]/..IF/...x = i/....WHILE x/.....q(a, b[c], SIZE d)"),
		proc("SKIP"),
		{Kind: api.PrSeq, L: []api.Process{{Kind: api.PrIf}, {Kind: api.PrAlt}, {Kind: api.PrCall, Name: "p"}}},
		proc("SEQ/.q(a, b[c], SIZE d)/.ALT/..c ? x; x/...SKIP"),
		proc("PROC p(INT u)/.n := u/:/p(n)"),
		proc("INT x IS n:/q(n, x)"),
		proc("INT y, x, y:/q(n, x)"),
	}
}

// P15.1, R6: the argument is left as it is, with what is behind its slices, and what is returned belongs to the caller.
func TestMemory(t *testing.T) {
	for _, x := range samples() {
		p, was := copied(x, 2), copied(x, 2)
		name, e := alias.Check(p)
		reads, writes := alias.Reads(p), alias.Writes(p)
		if !sameMemory(p, was) {
			t.Errorf("%s has been changed", shown(x))
		}
		if len(reads) > 0 && holds(reflect.ValueOf(p), reads) || len(writes) > 0 && (holds(reflect.ValueOf(p), writes) || &reads[0] == &writes[0]) {
			t.Errorf("the names of %s are not in memory of their own", shown(x))
		}
		wantReads, wantWrites := strings.Join(reads, " "), strings.Join(writes, " ")
		for _, l := range [][]string{reads, writes} {
			clear(l[:cap(l)])
		}
		if !sameMemory(p, was) {
			t.Errorf("%s has been changed by changing what was returned", shown(x))
		}
		checkNames(t, p, wantReads, wantWrites)
		if again, f := alias.Check(p); again != name || f != e {
			t.Errorf("Check(%s) = %q, %d and then %q, %d", shown(x), name, e, again, f)
		}
	}
}

// P15.1, R1: nil and empty lists are equivalent.
func TestEmptyLists(t *testing.T) {
	for _, x := range samples() {
		name, e := alias.Check(x)
		for room := range 2 {
			p := copied(x, room)
			if again, f := alias.Check(p); again != name || f != e {
				t.Errorf("Check(%s) = %q, %d, with nil %q, %d", shown(x), again, f, name, e)
			}
			checkNames(t, p, strings.Join(alias.Reads(x), " "), strings.Join(alias.Writes(x), " "))
		}
	}
}

// P15.1, R5: the same call returns the same, whatever was called before.
func TestRepeated(t *testing.T) {
	for range 3 {
		for _, x := range samples() {
			want, e := checkByRules(x)
			if name, f := alias.Check(x); name != want || f != e {
				t.Errorf("Check(%s) = %q, %d, not %q, %d", shown(x), name, f, want, e)
			}
			checkNames(t, x, strings.Join(readsByRules(x), " "), strings.Join(writesByRules(x), " "))
		}
	}
}
