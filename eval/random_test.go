package eval_test

import (
	"math"
	"slices"
	"testing"

	"transputer/api"
	"transputer/eval"
	"transputer/expr"
	"transputer/fold"
	"transputer/kernel"
)

const (
	most  = math.MaxInt32
	least = math.MinInt32
)

// random returns numbers in a fixed order without a pattern.
func random(seed uint32) func(n int) int {
	return func(n int) int {
		seed = seed*1664525 + 1013904223
		return int(seed>>9) % n
	}
}

func pick[T any](next func(int) int, l []T) T { return l[next(len(l))] }

func one(is bool) int {
	if is {
		return 1
	}
	return 0
}

func anyWord(next func(int) int) int32 {
	return pick(next, []int32{0, 0, 1, 1, 2, 3, -1, 7, 255, 256, most, least, int32(next(1<<16) - 1<<15)})
}

// anyOf returns a value of a kind.
func anyOf(next func(int) int, k api.TypeKind) int32 {
	switch k {
	case api.TyByte:
		return int32(pick(next, []int{0, 1, 255, next(256)}))
	case api.TyBool:
		return int32(next(2))
	}
	return anyWord(next)
}

// anyStore returns a store of a kernel, or something like one.
func anyStore(next func(int) int, k api.Kernel) (s [][]int32) {
	odd := next(8) == 0
	for _, v := range k.Vars {
		var l []int32
		for range max(1, v.Dim) {
			l = append(l, anyOf(next, v.Kind))
			if odd && next(8) == 0 {
				l = append(l, anyWord(next))[next(2):]
			}
		}
		s = append(s, l)
	}
	if odd && next(4) == 0 {
		s = append(s, []int32{0})[next(2):]
	}
	return s
}

const someVars = "INT [4]INT BYTE [3]BYTE BOOL [2]BOOL [2]INT"

// builder builds expressions that fit a kind, unless, so many times in a thousand, something else stands in them.
type builder struct {
	next   func(int) int
	vars   []api.Var
	errors int
}

func (b *builder) errs() bool { return b.next(1000) < b.errors }

func (b *builder) kind() api.TypeKind { return pick(b.next, kinds) }

func (b *builder) leaf(k api.TypeKind) api.KExpr {
	return number(anyOf(b.next, k))
}

// name returns a variable or an element of a kind.
func (b *builder) name(k api.TypeKind, depth int) api.KExpr {
	v := b.next(len(b.vars))
	for b.vars[v].Kind != k && !b.errs() {
		v = b.next(len(b.vars))
	}
	if b.errs() {
		v = pick(b.next, []int{-1, len(b.vars), 255, 256})
	}
	if v < 0 || v >= len(b.vars) || b.vars[v].Dim == 0 {
		return variable(v)
	}
	if b.next(2) == 0 {
		return elem(v, number(int32(b.next(b.vars[v].Dim))))
	}
	return elem(v, b.expr(api.TyInt, depth-1))
}

func (b *builder) expr(k api.TypeKind, depth int) api.KExpr {
	if b.errs() {
		k = b.kind()
	}
	if b.errs() {
		return pick(b.next, []api.KExpr{{}, {Kind: 9}, {Kind: api.KxNumber, V: 1}, {Kind: api.KxMonadic, Oper: api.OperNeg}, kexpr("1 / 0"), kexpr("5 AND 1")})
	}
	switch {
	case depth <= 0:
		return b.leaf(k)
	case b.next(4) == 0:
		return b.name(k, depth)
	case k == api.TyByte || b.next(8) == 0:
		from := k
		if b.next(3) == 0 {
			from = b.kind()
		}
		return convert(k, b.expr(from, depth-1))
	case b.next(6) == 0:
		return b.leaf(k)
	}
	return b.operation(k, depth)
}

var (
	intOperators   = []api.Operator{api.OperAdd, api.OperSub, api.OperMul, api.OperDiv, api.OperRem, api.OperPlus, api.OperMinus, api.OperTimes, api.OperBitAnd, api.OperBitOr, api.OperBitXor, api.OperShl, api.OperShr, api.OperNeg, api.OperModNeg, api.OperBitNot}
	truthOperators = []api.Operator{api.OperEq, api.OperNe, api.OperLt, api.OperGt, api.OperLe, api.OperGe, api.OperAfter, api.OperAnd, api.OperOr, api.OperAnd, api.OperOr, api.OperNot, api.OperNot}
)

// operation returns an operator with its operands, which fits TyInt or TyBool.
func (b *builder) operation(k api.TypeKind, depth int) api.KExpr {
	o, of := pick(b.next, intOperators), api.TyInt
	if k == api.TyBool {
		o = pick(b.next, truthOperators)
		switch {
		case o == api.OperEq || o == api.OperNe:
			of = b.kind()
		case o <= api.OperGe:
			of = pick(b.next, kinds[:2])
		case o != api.OperAfter:
			of = api.TyBool
		}
	}
	if o >= api.OperNeg {
		return unary(o, b.expr(of, depth-1))
	}
	return binary(o, b.expr(of, depth-1), b.expr(of, depth-1))
}

// some calls f with many expressions that fit a kind, if nothing else stands in them, and stores.
func some(seed uint32, n, errors int, f func(s [][]int32, x api.KExpr, k api.TypeKind, next func(int) int)) {
	next := random(seed)
	vars := kernelOf(someVars).Vars
	for range n {
		b := &builder{next: next, vars: vars, errors: errors}
		k := b.kind()
		x := b.expr(k, 1+next(6))
		if sizeOf(x) > api.MaxExpr {
			x = b.expr(k, 2)
		}
		f(anyStore(next, kernelOf(someVars)), x, k, next)
	}
}

// P17.2, P17.3: Value and Place return what the chapter says.
func TestRandomValues(t *testing.T) {
	for _, errors := range []int{0, 20, 100} {
		values, faults, places := 0, 0, 0
		some(uint32(errors), 20000, errors, func(s [][]int32, x api.KExpr, k api.TypeKind, next func(int) int) {
			if checkByRules(t, s, x) {
				values++
			} else {
				faults++
			}
			p := api.KPlace{V: next(9) - 1}
			for range pick(next, []int{0, 1, 1, 1, 1, 1, 2}) {
				p.Index = append(p.Index, pick(next, []api.KExpr{x, number(int32(next(5) - 1)), unary(api.OperNeg, x)}))
			}
			v, i, ok := placeByRules(s, p)
			checkPlace(t, s, p, v, i, ok)
			places += one(ok)
		})
		if values < 5000 || faults < 3000 || places < 3000 {
			t.Error("the expressions are too much of one sort:", errors, values, faults, places)
		}
	}
}

// variablesOf returns the variables that occur in an expression.
func variablesOf(x api.KExpr) (l []int) {
	if x.Kind == api.KxVar || x.Kind == api.KxElem {
		l = append(l, x.V)
	}
	for _, y := range x.L {
		l = append(l, variablesOf(y)...)
	}
	return l
}

// P17.4: the value of an expression depends only on the lists of the variables that occur in it.
func TestOtherLists(t *testing.T) {
	some(11, 20000, 10, func(s [][]int32, x api.KExpr, k api.TypeKind, next func(int) int) {
		used := variablesOf(x)
		other := slices.Clone(s)
		for v := range other {
			if !slices.Contains(used, v) {
				other[v] = pick(next, [][]int32{nil, {anyWord(next)}, {1, 1, 1, 1, 1, 1, 1}})
			}
		}
		for len(other) > 0 && !slices.Contains(used, len(other)-1) && next(2) == 0 {
			other = other[:len(other)-1]
		}
		v, ok := eval.Value(s, x)
		if w, same := eval.Value(other, x); v != w || ok != same {
			t.Errorf("Value(%s, %s) = %d, %t; in %s it is %d, %t", brief(s), brief(x), v, ok, brief(other), w, same)
		}
	})
}

// someNames are the names that are constants in TestConstants, and their values.
var someNames = map[string]int32{"a": 0, "b": 1, "c": -7, "d": most, "e": 200}

// constant returns a constant expression, and what it becomes in a kernel.
func constant(next func(int) int, k api.TypeKind, depth int) (api.Expr, api.KExpr) {
	literals := map[api.TypeKind]api.ExprKind{api.TyInt: api.ExNumber, api.TyByte: api.ExByte, api.TyBool: api.ExBool}
	if depth <= 0 || next(6) == 0 {
		name := pick(next, []string{"a", "b", "c", "d", "e", "v"})
		switch x := anyOf(next, k); {
		case next(2) == 0 || k != api.TyInt:
			return api.Expr{Kind: literals[k], N: x}, number(x)
		case name == "v":
			return api.Expr{Kind: api.ExSize, S: name}, number(5)
		default:
			return api.Expr{Kind: api.ExName, S: name}, number(someNames[name])
		}
	}
	b := &builder{next: next, vars: kernelOf(someVars).Vars}
	if k == api.TyByte || next(5) == 0 {
		x, y := constant(next, b.kind(), depth-1)
		return api.Expr{Kind: api.ExConvert, To: k, L: []api.Expr{x}}, convert(k, y)
	}
	// An operation with leaves for operands, which are replaced by constants of the same kinds.
	o := b.operation(k, 1)
	of := api.TyInt
	switch {
	case o.Oper == api.OperAnd || o.Oper == api.OperOr || o.Oper == api.OperNot:
		of = api.TyBool
	case o.Oper == api.OperEq || o.Oper == api.OperNe:
		of = b.kind()
	}
	x := api.Expr{Kind: api.ExDyadic, Oper: o.Oper}
	if o.Kind == api.KxMonadic {
		x.Kind = api.ExMonadic
	}
	x.L = make([]api.Expr, len(o.L))
	for i := range x.L {
		x.L[i], o.L[i] = constant(next, of, depth-1)
	}
	return x, o
}

// P17.4: a constant expression that has a value in layer 14 has the same value in every store.
func TestConstants(t *testing.T) {
	var env []api.Spec
	for name, v := range someNames {
		env = append(env, api.Spec{Kind: api.SpVal, Type: api.Type{Kind: api.TyInt}, Names: []string{name}, E: api.Expr{Kind: api.ExNumber, N: v}})
	}
	env = append(env, api.Spec{Kind: api.SpDeclare, Type: api.Type{Kind: api.TyInt, Dim: 5}, Names: []string{"v"}})
	next := random(12)
	values, more := 0, 0
	for range 30000 {
		x, y := constant(next, pick(next, kinds), 1+next(5))
		if !expr.May(x) {
			t.Fatalf("%s is not valid", brief(x))
		}
		s := anyStore(next, kernelOf(someVars))
		switch v, e := fold.Const(x, env); {
		case e == api.OK:
			values++
			checkValue(t, s, y, v)
			checkValue(t, nil, y, v)
		default:
			_, ok := eval.Value(s, y)
			more += one(ok) // AND and OR whose second operand has none
		}
	}
	if values < 5000 || more < 100 {
		t.Error("too few expressions have values:", values, more)
	}
}

// P17.4: after Put at a place, the place has that value, and all other elements are as before.
func TestPutAtPlaces(t *testing.T) {
	places := 0
	some(13, 20000, 0, func(s [][]int32, x api.KExpr, k api.TypeKind, next func(int) int) {
		p := api.KPlace{V: next(len(s) + 1)}
		if next(3) > 0 {
			p.Index = []api.KExpr{pick(next, []api.KExpr{x, number(int32(next(4)))})}
		}
		v, i, ok := eval.Place(s, p)
		if !ok {
			return
		}
		places++
		value := anyWord(next)
		want := slices.Clone(s)
		for w := range want {
			want[w] = slices.Clone(want[w])
		}
		want[v][i] = value
		after := eval.Put(s, v, i, value)
		checkStore(t, "Put", after, want)
		if v < api.MaxVars {
			checkValue(t, after, elem(v, number(int32(i))), value)
		}
		if i == 0 {
			checkValue(t, after, variable(v), value)
		}
	})
	if places < 3000 {
		t.Error("too few places:", places)
	}
}

// fitsKind tells whether an expression fits a kind in layer 16.
func fitsKind(x api.KExpr, k api.TypeKind) bool {
	whole := kernelOf(someVars)
	whole.Root = api.KProc{Kind: api.KpOut, C: 2, Item: k, E: []api.KExpr{x}}
	return kernel.May(whole)
}

// P17.4: the value of an expression that fits a kind is a value of that kind, in a store of the kernel.
func TestFittingValues(t *testing.T) {
	values := map[api.TypeKind]int{}
	some(14, 40000, 5, func(s [][]int32, x api.KExpr, k api.TypeKind, next func(int) int) {
		if !eval.May(kernelOf(someVars), s) {
			return
		}
		v, ok := eval.Value(s, x)
		for _, k := range kinds {
			if !ok || !fitsKind(x, k) {
				continue
			}
			values[k]++
			if !isOfKind(k, v) {
				t.Errorf("Value(%s, %s) = %d, which is not of the kind %d", brief(s), brief(x), v, k)
			}
		}
	})
	for _, k := range kinds {
		if values[k] < 3000 {
			t.Error("too few values:", values)
		}
	}
}

// P17.4: De Morgan's laws, with operands of any kind, also with such as have faults.
func TestDeMorgan(t *testing.T) {
	not := func(x api.KExpr) api.KExpr { return unary(api.OperNot, x) }
	check := func(s [][]int32, x, y api.KExpr) (ok bool) {
		t.Helper()
		for o, dual := range map[api.Operator]api.Operator{api.OperAnd: api.OperOr, api.OperOr: api.OperAnd} {
			a, b := not(binary(o, x, y)), binary(dual, not(x), not(y))
			v, is := eval.Value(s, a)
			if w, same := eval.Value(s, b); v != w || is != same {
				t.Errorf("Value(%s, %s) = %d, %t; of %s it is %d, %t", brief(s), brief(a), v, is, brief(b), w, same)
			}
			ok = ok || is
		}
		return ok
	}
	operands := []string{"0", "1", "2", "-1", "1 / 0", "v0", "v9", "BOOL 2", "NOT 3", "0 AND (1 / 0)"}
	for _, x := range operands {
		for _, y := range operands {
			check(storeOf("1"), kexpr(x), kexpr(y))
		}
	}
	values, faults := 0, 0
	next := random(16)
	b := &builder{next: next, vars: kernelOf(someVars).Vars, errors: 20}
	for range 20000 {
		x, y := b.expr(pick(next, []api.TypeKind{api.TyBool, api.TyBool, api.TyInt}), next(5)), b.expr(api.TyBool, next(5))
		if check(anyStore(next, kernelOf(someVars)), x, y) {
			values++
		} else {
			faults++
		}
	}
	if values < 5000 || faults < 3000 {
		t.Error("the operands are too much of one sort:", values, faults)
	}
}
