package syntax_test

import (
	"reflect"
	"slices"
	"testing"

	"transputer/api"
	"transputer/syntax"
)

// P11.1: the sizes of processes, valid or not.
func TestSize(t *testing.T) {
	body := procs(skip, seq(stop, skip), api.Process{})
	for _, c := range []struct {
		p    api.Process
		want int
	}{
		{api.Process{}, 1},
		{skip, 1},
		{seq(), 1},
		{while(skip), 2},
		{seq(skip, stop, seq(skip)), 5},
		{ifs(skip), 2},
		{procedure(stop, skip), 3},
		{api.Process{L: body}, 6},
		{api.Process{Kind: api.PrSkip, L: body}, 6},
		{api.Process{Kind: 77, Guards: guards(api.Guard{}, api.Guard{Body: body}, api.Guard{Kind: 9, Body: procs(skip)})}, 7},
		{api.Process{Spec: api.Spec{Body: body}}, 6},
		{api.Process{Kind: api.PrSeq, Spec: api.Spec{Kind: api.SpVal, Body: body}, L: body, Guards: guards(api.Guard{Body: body}, api.Guard{Body: body})}, 21},
		{seq(api.Process{Spec: api.Spec{Body: procs(api.Process{Guards: guards(api.Guard{Body: body})})}}), 8},
		{api.Process{Kind: api.PrSkip, Name: "IF", Targets: exprs(api.Expr{}), Procs: []int{1, 2, 3}}, 1},
	} {
		if got := syntax.Size(c.p); got != c.want {
			t.Errorf("Size(%s) = %d, want %d", brief(c.p), got, c.want)
		}
	}
	next := random(12)
	for range 3000 {
		p := anyProcess(next, 6, true)
		want := 0
		inside(&p, func(*api.Process) { want++ })
		if got := syntax.Size(p); got != want {
			t.Errorf("Size(%s) = %d, want %d", brief(p), got, want)
		}
	}
}

// changes calls f while v differs in one field, or in one element of a list, from what it was.
func changes(v reflect.Value, f func(what string)) {
	was := reflect.ValueOf(v.Interface())
	to := func(what string, x reflect.Value) {
		v.Set(x)
		f(what)
		v.Set(was)
	}
	switch v.Kind() {
	case reflect.String:
		to("text", reflect.ValueOf(v.String()+"x"))
		if v.Len() > 0 {
			to("no text", reflect.ValueOf(""))
		}
	case reflect.Bool:
		to("truth", reflect.ValueOf(!v.Bool()))
	case reflect.Int, reflect.Int32:
		to("number", reflect.ValueOf(v.Int()+1).Convert(v.Type()))
		to("number", reflect.ValueOf(v.Int()-1).Convert(v.Type()))
	case reflect.Uint8:
		to("kind", reflect.ValueOf(v.Uint()+1).Convert(v.Type()))
	case reflect.Struct:
		for i := range v.NumField() {
			name := v.Type().Field(i).Name
			changes(v.Field(i), func(what string) { f(name + " " + what) })
		}
	case reflect.Slice:
		zero := reflect.MakeSlice(v.Type(), 1, 1)
		to("longer", reflect.AppendSlice(reflect.AppendSlice(reflect.MakeSlice(v.Type(), 0, v.Len()), was), zero))
		if v.Len() == 0 {
			return
		}
		to("shorter", was.Slice(0, v.Len()-1))
		to("shorter in front", was.Slice(1, v.Len()))
		to("none", reflect.Zero(v.Type()))
		for i := range v.Len() {
			changes(v.Index(i), f)
		}
		first, last := v.Index(0), v.Index(v.Len()-1)
		if !reflect.DeepEqual(first.Interface(), last.Interface()) {
			a, b := reflect.ValueOf(first.Interface()), reflect.ValueOf(last.Interface())
			first.Set(b)
			last.Set(a)
			f("order")
			first.Set(a)
			last.Set(b)
		}
	}
}

// emptied gives each nil slice in v no elements, or makes each one without elements nil.
func emptied(v reflect.Value, empty bool) {
	switch v.Kind() {
	case reflect.Struct:
		for i := range v.NumField() {
			emptied(v.Field(i), empty)
		}
	case reflect.Slice:
		if v.Len() == 0 {
			v.Set(reflect.Zero(v.Type()))
			if empty {
				v.Set(reflect.MakeSlice(v.Type(), 0, 1))
			}
		}
		for i := range v.Len() {
			emptied(v.Index(i), empty)
		}
	}
}

// everything is a process, not a valid one, with all fields used, as those of all processes, guards and specifications in it are.
func everything(depth int) api.Process {
	x := []api.Expr{name("x"), at("v", number(1)), two(name("a"), api.OperAdd, convert(api.TyInt, name("b")))}
	var l [3][]api.Process
	for i := range l {
		l[i] = procs(skip, stop, skip)
		if depth > 0 {
			l[i][1] = everything(depth - 1)
		}
	}
	g := api.Guard{Kind: api.GuAfter, Name: "g", Cond: x[0], Chan: x[1], Targets: slices.Clone(x), Values: slices.Clone(x[:2]), Time: x[2], Body: l[0]}
	s := api.Spec{Kind: api.SpProto, Type: channels, Names: []string{"a", "b", "c"}, E: x[2], Formals: []api.Formal{{Val: true, Type: integer, Name: "n"}, {Type: named, Name: "m"}}, Body: l[1],
		Proto: api.Proto{Cases: true, L: []api.Variant{{Tag: "a", Items: []api.TypeKind{1, 2, 3}}, {Tag: "b", Items: []api.TypeKind{3, 2}}, {}}}}
	return api.Process{Kind: api.PrIf, Name: "f", Chan: x[1], Targets: slices.Clone(x[1:]), Exprs: slices.Clone(x), Rep: api.Rep{Name: "i", Base: x[0], Count: x[2]}, Guards: guards(g, api.Guard{Kind: api.GuElse}, g), L: l[2], Procs: []int{1, 2, 3}, Spec: s}
}

// deepCopy returns a copy of v that shares no memory with it.
func deepCopy(v reflect.Value) reflect.Value {
	c := reflect.New(v.Type()).Elem()
	c.Set(v)
	switch v.Kind() {
	case reflect.Struct:
		for i := range v.NumField() {
			c.Field(i).Set(deepCopy(v.Field(i)))
		}
	case reflect.Slice:
		if v.IsNil() {
			break
		}
		c.Set(reflect.MakeSlice(v.Type(), v.Len(), v.Len()))
		for i := range v.Len() {
			c.Index(i).Set(deepCopy(v.Index(i)))
		}
	}
	return c
}

func copied(p api.Process) api.Process {
	return deepCopy(reflect.ValueOf(p)).Interface().(api.Process)
}

// P11.1: trees that differ in one field, at the root or deep inside, are not the same.
func TestSameFields(t *testing.T) {
	l := []api.Process{{}, everything(0), everything(1)}
	for _, c := range samples() {
		l = append(l, c.p)
	}
	seen := 0
	for _, p := range l {
		q := copied(p)
		if !syntax.Same(p, q) {
			t.Errorf("Same(%s, a copy) = false", brief(p))
		}
		changes(reflect.ValueOf(&q).Elem(), func(what string) {
			seen++
			if syntax.Same(p, q) || syntax.Same(q, p) {
				t.Errorf("%s: Same(%s, %s) = true", what, brief(p), brief(q))
			}
		})
		if !syntax.Same(p, q) || !reflect.DeepEqual(p, q) {
			t.Fatalf("%s has been changed", brief(p))
		}
	}
	if seen < 5000 {
		t.Errorf("only %d changes", seen)
	}
}

// P11.1: lists that are nil and lists that are empty are equal; a list with something behind its length is one without it.
func TestSameEmpty(t *testing.T) {
	l := []api.Process{{}, everything(0), everything(1)}
	for _, c := range samples() {
		l = append(l, c.p)
	}
	for _, p := range l {
		q, r := copied(p), copied(p)
		emptied(reflect.ValueOf(&q).Elem(), true)
		emptied(reflect.ValueOf(&r).Elem(), false)
		if !syntax.Same(q, r) || !syntax.Same(r, q) || !syntax.Same(p, q) || syntax.May(q) != syntax.May(p) || syntax.Size(q) != syntax.Size(p) {
			t.Errorf("%s is another process with empty lists", brief(p))
		}
		a, e := syntax.Print(p)
		if b, f := syntax.Print(q); !slices.Equal(a, b) || e != f {
			t.Errorf("Print(%s) = %s, %d with empty lists", brief(p), brief(b), f)
		}
	}
	long := procs(skip, stop, seq(skip))
	if !syntax.Same(seq(long[:1]...), seq(skip)) || syntax.Size(seq(long[:2]...)) != 3 || !syntax.May(seq(long[:0]...)) || syntax.Same(seq(long[:1]...), seq(long[:2]...)) {
		t.Error("what is behind the length of a list counts")
	}
}

// P11.1: samples are the same as themselves only.
func TestSameSamples(t *testing.T) {
	l := samples()
	for i, a := range l {
		for j, b := range l {
			if got := syntax.Same(a.p, b.p); got != (i == j) {
				t.Errorf("Same(%s, %s) = %t", a.s, b.s, got)
			}
		}
	}
	// The same processes in the same order, but not in the same places.
	a := api.Process{Kind: api.PrSeq, L: procs(skip), Guards: guards(api.Guard{})}
	b := api.Process{Kind: api.PrSeq, Guards: guards(api.Guard{Body: procs(skip)})}
	c := api.Process{Kind: api.PrSeq, Spec: api.Spec{Body: procs(skip)}, Guards: guards(api.Guard{})}
	d := api.Process{Kind: api.PrSeq, Guards: guards(api.Guard{Body: procs(skip)}, api.Guard{})}
	e := api.Process{Kind: api.PrSeq, Guards: guards(api.Guard{}, api.Guard{Body: procs(skip)})}
	for i, x := range procs(a, b, c, d, e, seq(skip, stop), seq(seq(skip), stop), seq(seq(skip, stop)), seq(stop, skip)) {
		for j, y := range procs(a, b, c, d, e, seq(skip, stop), seq(seq(skip), stop), seq(seq(skip, stop)), seq(stop, skip)) {
			if got := syntax.Same(x, y); got != (i == j) {
				t.Errorf("Same(%s, %s) = %t", brief(x), brief(y), got)
			}
		}
	}
}

// tall returns a process with n processes in it, each in the one before it, in L, in a guard or in a specification.
func tall(n int, last api.Process) api.Process {
	p := last
	for i := range n - 1 {
		switch i % 3 {
		case 0:
			p = api.Process{Kind: api.PrSeq, L: procs(p)}
		case 1:
			p = api.Process{Kind: api.PrIf, Guards: guards(api.Guard{Body: procs(p)})}
		case 2:
			p = api.Process{Kind: api.PrSpec, Spec: api.Spec{Body: procs(p)}}
		}
	}
	return p
}

// P11.1, P11.2, R1: a tree of a million processes, a million deep and a million wide.
func TestMillion(t *testing.T) {
	const million = 1000000
	p := tall(million, skip)
	if got := syntax.Size(p); got != million {
		t.Errorf("Size = %d", got)
	}
	if l, e := syntax.Print(p); syntax.May(p) || e != api.ErrArg || len(l) > 0 {
		t.Error("valid, and a million deep")
	}
	if !syntax.Same(p, p) || syntax.Same(p, tall(10, skip)) || syntax.Same(tall(100000, stop), tall(100000, skip)) || syntax.Same(tall(100000, skip), p) {
		t.Error("Same is wrong for deep trees")
	}
	p = seq(slices.Repeat(procs(skip), million-1)...)
	if got := syntax.Size(p); got != million {
		t.Errorf("Size = %d", got)
	}
	if l, e := syntax.Print(p); syntax.May(p) || e != api.ErrArg || len(l) > 0 {
		t.Error("valid, and a million wide")
	}
	q := p
	q.L = q.L[:len(q.L)-1]
	if !syntax.Same(p, p) || syntax.Same(p, q) {
		t.Error("Same is wrong for wide trees")
	}
	p.L, q.L = slices.Clone(p.L[:1000]), p.L[:1000]
	p.L[999] = stop
	if syntax.Same(p, q) {
		t.Error("Same does not see the last process")
	}
	deep := name("x")
	for range million {
		deep = one(api.OperNeg, deep)
	}
	x := api.Process{Kind: api.PrWhile, Exprs: exprs(deep), L: procs(skip)}
	if syntax.May(x) || syntax.Size(x) != 2 || !syntax.Same(x, x) || syntax.Same(x, while(skip)) {
		t.Error("an expression that is a million deep")
	}
}
