package eval

import (
	"math"

	"transputer/api"
)

// forms are what the fields of each kind may hold: N, V, Oper and To from the first to the last value, L so many parts. The
// values of a field that a kind does not use are from 0 to 0.
var forms = [...]struct {
	firstN, lastN       int32
	lastV               int
	firstOper, lastOper api.Operator
	firstTo, lastTo     api.TypeKind
	parts               int
}{
	api.KxNumber:  {firstN: math.MinInt32, lastN: math.MaxInt32},
	api.KxVar:     {lastV: api.MaxVars - 1},
	api.KxElem:    {lastV: api.MaxVars - 1, parts: 1},
	api.KxMonadic: {firstOper: api.OperNeg, lastOper: api.OperNot, parts: 1},
	api.KxDyadic:  {firstOper: api.OperAdd, lastOper: api.OperAfter, parts: 2},
	api.KxConvert: {firstTo: api.TyInt, lastTo: api.TyBool, parts: 1},
}

// isValidAlone reports whether the fields of x are those of its kind, whatever the expressions in L are.
func isValidAlone(x api.KExpr) bool {
	if x.Kind == api.NoKExpr || int(x.Kind) >= len(forms) {
		return false
	}
	f := forms[x.Kind]
	return f.firstN <= x.N && x.N <= f.lastN &&
		0 <= x.V && x.V <= f.lastV &&
		f.firstOper <= x.Oper && x.Oper <= f.lastOper &&
		f.firstTo <= x.To && x.To <= f.lastTo &&
		len(x.L) == f.parts
}

// isValid reports whether e is a valid expression of a kernel.
func isValid(e api.KExpr) bool {
	size := 0
	// within goes no deeper than the limit, so that it may call itself.
	var within func(x api.KExpr, depth int) bool
	within = func(x api.KExpr, depth int) bool {
		size++
		if size > api.MaxExpr || depth > api.MaxDepth || !isValidAlone(x) {
			return false
		}
		for _, part := range x.L {
			if !within(part, depth+1) {
				return false
			}
		}
		return true
	}
	return within(e, 1)
}
