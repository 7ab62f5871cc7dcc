package fold

import (
	"transputer/api"
	"transputer/word"
)

// Apply returns what an operator makes of its operands, and whether it makes something.
func Apply(o api.Operator, a, b int32) (int32, bool) {
	if f := certain(o); f != nil {
		return f(a, b), true
	}
	v, over := uncertain(o, a, b)
	if over {
		return 0, false
	}
	return v, true
}

func truth(x bool) int32 {
	if x {
		return 1
	}
	return 0
}

func isTruth(v int32) bool { return v == 0 || v == 1 }

// certain returns the function of an operator that cannot fail; nil of any other number.
func certain(o api.Operator) func(a, b int32) int32 {
	whether := func(holds func(a, b int32) bool) func(a, b int32) int32 {
		return func(a, b int32) int32 { return truth(holds(a, b)) }
	}
	switch o {
	case api.OperPlus:
		return word.Sum
	case api.OperMinus:
		return word.Diff
	case api.OperTimes:
		return word.Prod
	case api.OperBitAnd:
		return func(a, b int32) int32 { return a & b }
	case api.OperBitOr:
		return func(a, b int32) int32 { return a | b }
	case api.OperBitXor:
		return func(a, b int32) int32 { return a ^ b }
	case api.OperShl:
		return word.Shl
	case api.OperShr:
		return word.Shr
	case api.OperEq:
		return whether(func(a, b int32) bool { return a == b })
	case api.OperNe:
		return whether(func(a, b int32) bool { return a != b })
	case api.OperLt:
		return whether(func(a, b int32) bool { return a < b })
	case api.OperGt:
		return whether(func(a, b int32) bool { return a > b })
	case api.OperLe:
		return whether(func(a, b int32) bool { return a <= b })
	case api.OperGe:
		return whether(func(a, b int32) bool { return a >= b })
	case api.OperAfter:
		return whether(word.After)
	case api.OperModNeg:
		return func(a, _ int32) int32 { return word.Diff(0, a) }
	case api.OperBitNot:
		return func(a, _ int32) int32 { return ^a }
	}
	return nil
}

// uncertain returns what an operator that may fail makes of its operands, and whether it fails, as all other numbers do.
func uncertain(o api.Operator, a, b int32) (v int32, over bool) {
	switch o {
	case api.OperAdd:
		return word.Add(a, b)
	case api.OperSub:
		return word.Sub(a, b)
	case api.OperMul:
		return word.Mul(a, b)
	case api.OperDiv:
		return word.Div(a, b)
	case api.OperRem:
		return word.Rem(a, b)
	case api.OperAnd:
		return a & b, !isTruth(a) || !isTruth(b)
	case api.OperOr:
		return a | b, !isTruth(a) || !isTruth(b)
	case api.OperNeg:
		return word.Sub(0, a)
	case api.OperNot:
		return 1 - a, !isTruth(a)
	}
	return 0, true
}
