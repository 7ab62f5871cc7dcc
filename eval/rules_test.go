package eval_test

import (
	"reflect"
	"slices"

	"transputer/api"
	"transputer/fold"
)

// What the functions return, once more, as the chapter says it.

var kinds = []api.TypeKind{api.TyInt, api.TyByte, api.TyBool}

func isOfKind(k api.TypeKind, x int32) bool {
	return k == api.TyInt || k == api.TyByte && 0 <= x && x <= 255 || k == api.TyBool && (x == 0 || x == 1)
}

func soundByRules(l []api.Var) bool {
	for _, v := range l {
		if !slices.Contains(kinds, v.Kind) || v.Dim < 0 || v.Dim > 64 {
			return false
		}
	}
	return len(l) <= 256
}

func mayByRules(k api.Kernel, s [][]int32) bool {
	if !soundByRules(k.Vars) || len(s) != len(k.Vars) {
		return false
	}
	for v, l := range s {
		wanted := k.Vars[v].Dim
		if wanted == 0 {
			wanted = 1
		}
		if len(l) != wanted {
			return false
		}
		for _, x := range l {
			if !isOfKind(k.Vars[v].Kind, x) {
				return false
			}
		}
	}
	return true
}

func sameByRules(a, b [][]int32) bool {
	if len(a) != len(b) {
		return false
	}
	for v := range a {
		if len(a[v]) != len(b[v]) {
			return false
		}
		for i := range a[v] {
			if a[v][i] != b[v][i] {
				return false
			}
		}
	}
	return true
}

func sizeOf(x api.KExpr) int {
	n := 1
	for _, y := range x.L {
		n += sizeOf(y)
	}
	return n
}

func depthOf(x api.KExpr) int {
	n := 0
	for _, y := range x.L {
		n = max(n, depthOf(y))
	}
	return n + 1
}

// hasFields tells whether the expressions in x have the fields of their kinds alone.
func hasFields(x api.KExpr) bool {
	kept, parts := api.KExpr{Kind: x.Kind}, 1
	switch x.Kind {
	case api.KxNumber:
		kept.N, parts = x.N, 0
	case api.KxVar:
		kept.V, parts = x.V, 0
	case api.KxElem:
		kept.V = x.V
	case api.KxMonadic:
		kept.Oper = x.Oper
	case api.KxDyadic:
		kept.Oper, parts = x.Oper, 2
	case api.KxConvert:
		kept.To = x.To
	default:
		return false
	}
	alone := x
	alone.L = nil
	ok := len(x.L) == parts && reflect.DeepEqual(alone, kept) && 0 <= x.V && x.V <= 255
	ok = ok && (x.Kind != api.KxMonadic || api.OperNeg <= x.Oper && x.Oper <= api.OperNot)
	ok = ok && (x.Kind != api.KxDyadic || api.OperAdd <= x.Oper && x.Oper <= api.OperAfter)
	ok = ok && (x.Kind != api.KxConvert || slices.Contains(kinds, x.To))
	return ok && !slices.ContainsFunc(x.L, func(y api.KExpr) bool { return !hasFields(y) })
}

func validByRules(x api.KExpr) bool { return sizeOf(x) <= 256 && depthOf(x) <= 32 && hasFields(x) }

// must returns the value of a valid expression in a store; it panics if there is none.
func must(s [][]int32, x api.KExpr) int32 {
	fault := func(ok bool) {
		if ok {
			panic("fault")
		}
	}
	switch x.Kind {
	case api.KxNumber:
		return x.N
	case api.KxVar:
		return s[x.V][0]
	case api.KxElem:
		return s[x.V][must(s, x.L[0])]
	case api.KxConvert:
		v := must(s, x.L[0])
		fault(!isOfKind(x.To, v))
		return v
	}
	operands := []int32{must(s, x.L[0]), 0}
	switch {
	case x.Kind == api.KxMonadic:
	case x.Oper == api.OperAnd && operands[0] == 0:
		return 0
	case x.Oper == api.OperOr && operands[0] == 1:
		return 1
	default:
		operands[1] = must(s, x.L[1])
	}
	v, ok := fold.Apply(x.Oper, operands[0], operands[1])
	fault(!ok)
	return v
}

// valueByRules returns what Value returns.
func valueByRules(s [][]int32, x api.KExpr) (v int32, ok bool) {
	if !validByRules(x) {
		return 0, false
	}
	defer func() {
		if recover() != nil {
			v, ok = 0, false
		}
	}()
	return must(s, x), true
}

// placeByRules returns what Place returns.
func placeByRules(s [][]int32, p api.KPlace) (v, i int, ok bool) {
	if len(p.Index) > 1 || p.V < 0 || p.V >= len(s) {
		return 0, 0, false
	}
	if len(p.Index) == 1 {
		x, ok := valueByRules(s, p.Index[0])
		if !ok {
			return 0, 0, false
		}
		i = int(x)
	}
	if i < 0 || i >= len(s[p.V]) {
		return 0, 0, false
	}
	return p.V, i, true
}
