package kernel

import (
	"transputer/api"
	"transputer/types"
)

// kinds is a set of kinds of values: those that an expression fits.
type kinds uint8

const none kinds = 0

func only(k api.TypeKind) kinds { return 1 << k }

// exprForm is which fields the expressions of a kind have: operators from the first to the last one, so many parts.
// Which kinds an expression fits follows from those that its parts fit.
type exprForm struct {
	number, variable, to bool
	first, last          api.Operator
	parts                int
	fit                  func(x *api.KExpr, parts []kinds) kinds
}

// exprForms returns the forms of all kinds.
func (c *checker) exprForms() map[api.KExprKind]exprForm {
	return map[api.KExprKind]exprForm{
		api.KxNumber:  {number: true, fit: c.number},
		api.KxVar:     {variable: true, fit: c.variable},
		api.KxElem:    {variable: true, parts: 1, fit: c.element},
		api.KxMonadic: {first: api.OperNeg, last: api.OperNot, parts: 1, fit: c.monadic},
		api.KxDyadic:  {first: api.OperAdd, last: api.OperAfter, parts: 2, fit: c.dyadic},
		api.KxConvert: {to: true, parts: 1, fit: c.conversion},
	}
}

// mayAlone reports whether x has the fields of its form alone, whatever its parts are.
func (f exprForm) mayAlone(x *api.KExpr) bool {
	return (f.number || x.N == 0) && (f.variable || x.V == 0) && (f.to || x.To == api.NoType) &&
		f.first <= x.Oper && x.Oper <= f.last && len(x.L) == f.parts
}

func isNone(x api.KExpr) bool { return x.Kind == api.NoKExpr && exprForm{}.mayAlone(&x) }

func (c *checker) number(x *api.KExpr, _ []kinds) kinds {
	fit := none
	for _, k := range []api.TypeKind{api.TyInt, api.TyByte, api.TyBool} {
		if types.Fits(k, x.N) {
			fit |= only(k)
		}
	}
	return fit
}

func (c *checker) variable(x *api.KExpr, _ []kinds) kinds {
	if !c.exists(x.V) || c.vars[x.V].Dim > 0 {
		return none
	}
	return only(c.vars[x.V].Kind)
}

func (c *checker) element(x *api.KExpr, parts []kinds) kinds {
	if !c.exists(x.V) || c.vars[x.V].Dim == 0 || parts[0]&only(api.TyInt) == none {
		return none
	}
	return only(c.vars[x.V].Kind)
}

func (c *checker) monadic(x *api.KExpr, parts []kinds) kinds {
	if x.Oper == api.OperNot {
		return parts[0] & only(api.TyBool)
	}
	return parts[0] & only(api.TyInt)
}

func (c *checker) dyadic(x *api.KExpr, parts []kinds) kinds {
	both := parts[0] & parts[1]
	switch x.Oper {
	case api.OperEq, api.OperNe:
		return truth(both)
	case api.OperLt, api.OperGt, api.OperLe, api.OperGe:
		return truth(both & (only(api.TyInt) | only(api.TyByte)))
	case api.OperAfter:
		return truth(both & only(api.TyInt))
	case api.OperAnd, api.OperOr:
		return both & only(api.TyBool)
	}
	return both & only(api.TyInt)
}

// truth returns what a comparison fits whose operands both fit one of these kinds.
func truth(operands kinds) kinds {
	if operands == none {
		return none
	}
	return only(api.TyBool)
}

func (c *checker) conversion(x *api.KExpr, _ []kinds) kinds {
	if !isValue(x.To) {
		return none
	}
	return only(x.To)
}

// kindsOf returns the kinds that an expression fits: none, if it is not valid.
func (c *checker) kindsOf(x *api.KExpr) kinds {
	c.exprs = 0
	return c.partKinds(x, 1)
}

// partKinds returns the kinds that an expression fits that is that deep in another one. It goes no deeper than the limit,
// so that it may call itself.
func (c *checker) partKinds(x *api.KExpr, depth int) kinds {
	c.exprs++
	f, ok := c.ofExprs[x.Kind]
	if !ok || c.exprs > api.MaxExpr || depth > api.MaxDepth || !f.mayAlone(x) {
		return none
	}
	parts := make([]kinds, len(x.L))
	for i := range x.L {
		parts[i] = c.partKinds(&x.L[i], depth+1)
		if parts[i] == none { // no operator takes an operand that fits no kind
			return none
		}
	}
	return f.fit(x, parts)
}
