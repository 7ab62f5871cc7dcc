package eval

import (
	"transputer/api"
	"transputer/fold"
)

// store is the elements of the variables.
type store [][]int32

// has reports whether there is an element i of the variable v.
func (s store) has(v, i int) bool {
	return 0 <= v && v < len(s) && 0 <= i && i < len(s[v])
}

// at returns the element i of the variable v, and whether there is one.
func (s store) at(v, i int) (int32, bool) {
	if !s.has(v, i) {
		return 0, false
	}
	return s[v][i], true
}

// value returns the value of a valid expression, and whether it has one.
func (s store) value(x api.KExpr) (int32, bool) {
	switch x.Kind {
	case api.KxNumber:
		return x.N, true
	case api.KxVar:
		return s.at(x.V, 0)
	}
	first, ok := s.value(x.L[0])
	if !ok {
		return 0, false
	}
	switch x.Kind {
	case api.KxElem:
		return s.at(x.V, int(first))
	case api.KxMonadic:
		return fold.Apply(x.Oper, first, 0)
	case api.KxDyadic:
		return s.dyadic(x, first)
	}
	return converted(x.To, first)
}

// dyadic returns the value of an expression whose first operand has a value.
func (s store) dyadic(x api.KExpr, first int32) (int32, bool) {
	if decides(x.Oper, first) {
		return first, true
	}
	second, ok := s.value(x.L[1])
	if !ok {
		return 0, false
	}
	return fold.Apply(x.Oper, first, second)
}

// decides reports whether the first operand is the value, whatever the second one is, even a fault.
func decides(o api.Operator, first int32) bool {
	return o == api.OperAnd && first == 0 || o == api.OperOr && first == 1
}

// converted returns x as a value of a kind, and whether it is one.
func converted(k api.TypeKind, x int32) (int32, bool) {
	if !fits(k, x) {
		return 0, false
	}
	return x, true
}
