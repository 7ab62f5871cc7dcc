package step_test

import (
	"reflect"

	"transputer/api"
)

// eachChange calls f with s as it is when one field in it has been changed, in turn for all fields and several changes. The
// states are f's only until it returns.
func eachChange(s api.State, f func(changed api.State)) {
	p := &api.State{}
	reflect.ValueOf(p).Elem().Set(plain(reflect.ValueOf(s)))
	changes(reflect.ValueOf(p).Elem(), func() { f(*p) })
}

// changes changes what is in v, and calls f at each change.
func changes(v reflect.Value, f func()) {
	was := reflect.New(v.Type()).Elem()
	was.Set(v)
	defer v.Set(was)
	switch v.Kind() {
	case reflect.Struct:
		for i := range v.NumField() {
			changes(v.Field(i), f)
		}
	case reflect.Slice:
		for i := range v.Len() {
			changes(v.Index(i), f)
		}
		changeLength(v, was, f)
	case reflect.Uint8:
		for n := range uint64(30) {
			if n != was.Uint() {
				v.SetUint(n)
				f()
			}
		}
		v.SetUint(255)
		f()
	default:
		n := was.Int()
		for _, x := range []int64{-1, 0, 1, 2, 3, 5, 6, 8, 64, 65, 255, 256, n - 1, n + 1} {
			if x != n {
				v.SetInt(x)
				f()
			}
		}
	}
}

// changeLength calls f with shorter and longer lists in place of the one in v.
func changeLength(v, was reflect.Value, f func()) {
	set := func(l reflect.Value) {
		v.Set(l)
		f()
	}
	grown := func(more ...reflect.Value) reflect.Value {
		return reflect.Append(reflect.AppendSlice(reflect.MakeSlice(v.Type(), 0, 9), was), more...)
	}
	set(grown(reflect.Zero(v.Type().Elem())))
	set(grown(samplesOf(v.Type().Elem())...))
	if n := was.Len(); n > 0 {
		set(grown(was.Index(0)))
		set(was.Slice(1, n))
		set(was.Slice(0, n-1))
	}
}

// samplesOf returns something valid of a type.
func samplesOf(t reflect.Type) []reflect.Value {
	for _, x := range []any{int32(5), []int32{5}, kexpr("1"), kplace("v0"), kproc("skip"), kproc("alt|.1 & skip|..skip").Guards[0]} {
		if reflect.TypeOf(x) == t {
			return []reflect.Value{reflect.ValueOf(x)}
		}
	}
	return nil
}
