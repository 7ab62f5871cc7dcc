package typing

import "transputer/api"

// require returns the error of what is required: none if it is the case.
func require(is bool) api.Errno {
	if is {
		return api.OK
	}
	return api.ErrTyping
}

// of returns the type with this kind whose other fields are zero.
func of(k api.TypeKind) api.Type { return api.Type{Kind: k} }

func isInt(t api.Type) bool { return t == of(api.TyInt) }

func isByte(t api.Type) bool { return t == of(api.TyByte) }

func isBool(t api.Type) bool { return t == of(api.TyBool) }

func isTimer(t api.Type) bool { return t == of(api.TyTimer) }

func isSimple(t api.Type) bool { return isInt(t) || isByte(t) || isBool(t) }

// takes reports whether an operator takes operands of a type.
func takes(o api.Operator, t api.Type) bool {
	switch o {
	case api.OperEq, api.OperNe:
		return isSimple(t)
	case api.OperLt, api.OperGt, api.OperLe, api.OperGe:
		return isInt(t) || isByte(t)
	case api.OperAnd, api.OperOr, api.OperNot:
		return isBool(t)
	}
	return isInt(t)
}

// gives returns the type of an operator's result.
func gives(o api.Operator) api.Type {
	switch o {
	case api.OperEq, api.OperNe, api.OperLt, api.OperGt, api.OperLe, api.OperGe, api.OperAnd, api.OperOr, api.OperNot, api.OperAfter:
		return of(api.TyBool)
	}
	return of(api.TyInt)
}

// unless returns a type, or, if there is an error, that instead.
func unless(e api.Errno, t api.Type) (api.Type, api.Errno) {
	if e != api.OK {
		return api.Type{}, e
	}
	return t, api.OK
}

// typeOf returns the type of a valid expression.
func (v *environment) typeOf(x api.Expr) (api.Type, api.Errno) {
	switch x.Kind {
	case api.ExByte:
		return of(api.TyByte), api.OK
	case api.ExBool:
		return of(api.TyBool), api.OK
	case api.ExName:
		return v.typeOfName(x.S)
	case api.ExIndex:
		return v.typeOfElement(x)
	case api.ExMonadic, api.ExDyadic:
		return v.typeOfOperation(x)
	case api.ExConvert:
		return v.typeOfConversion(x)
	case api.ExSize:
		_, e := v.typeOfArray(x.S)
		return unless(e, of(api.TyInt))
	}
	return of(api.TyInt), api.OK
}

func (v *environment) typeOfName(name string) (api.Type, api.Errno) {
	x, ok := v.specified(name)
	if !ok {
		return api.Type{}, api.ErrScope
	}
	switch x.spec.Kind {
	case api.SpDeclare, api.SpVal, api.SpIs:
		return x.spec.Type, api.OK
	}
	return api.Type{}, api.ErrTyping
}

// typeOfArray returns the type of a name before brackets or after SIZE.
func (v *environment) typeOfArray(name string) (api.Type, api.Errno) {
	t, e := v.typeOfName(name)
	if e != api.OK {
		return api.Type{}, e
	}
	return unless(require(t.Dim > 0), t)
}

func (v *environment) typeOfElement(x api.Expr) (api.Type, api.Errno) {
	t, e := v.typeOfArray(x.S)
	if e != api.OK {
		return api.Type{}, e
	}
	t.Dim = 0
	return unless(v.has(x.L[0], of(api.TyInt)), t)
}

// typeOfOperation returns the type of an operator with its operands, which all have the type of the first one.
func (v *environment) typeOfOperation(x api.Expr) (api.Type, api.Errno) {
	t, e := v.typeOf(x.L[0])
	if e != api.OK {
		return api.Type{}, e
	}
	for _, y := range x.L[1:] {
		if e := v.has(y, t); e != api.OK {
			return api.Type{}, e
		}
	}
	return unless(require(takes(x.Oper, t)), gives(x.Oper))
}

func (v *environment) typeOfConversion(x api.Expr) (api.Type, api.Errno) {
	t, e := v.typeOf(x.L[0])
	if e != api.OK {
		return api.Type{}, e
	}
	return unless(require(isSimple(t)), of(x.To))
}

// typeOfTarget returns the type of an expression that must be a target.
func (v *environment) typeOfTarget(x api.Expr) (api.Type, api.Errno) {
	t, e := v.typeOf(x)
	if e != api.OK {
		return api.Type{}, e
	}
	return unless(require(isSimple(t) && v.isVariable(x)), t)
}

// isVariable reports whether an expression is a variable or an element of one.
func (v *environment) isVariable(x api.Expr) bool {
	if x.Kind != api.ExName && x.Kind != api.ExIndex {
		return false
	}
	y, ok := v.specified(x.S)
	return ok && (y.spec.Kind == api.SpDeclare || y.spec.Kind == api.SpIs)
}

// fits returns the error of an expression that must have a type, which typeOf finds.
func fits(x api.Expr, t api.Type, typeOf func(api.Expr) (api.Type, api.Errno)) api.Errno {
	got, e := typeOf(x)
	if e != api.OK {
		return e
	}
	return require(got == t)
}

func (v *environment) has(x api.Expr, t api.Type) api.Errno { return fits(x, t, v.typeOf) }

func (v *environment) isTarget(x api.Expr, t api.Type) api.Errno { return fits(x, t, v.typeOfTarget) }

// match returns the error of expressions that must have the types of items, which typeOf finds.
func match(l []api.Expr, items []api.TypeKind, typeOf func(api.Expr) (api.Type, api.Errno)) api.Errno {
	for i, x := range l {
		if i == len(items) {
			return api.ErrTyping
		}
		if e := fits(x, of(items[i]), typeOf); e != api.OK {
			return e
		}
	}
	return require(len(l) == len(items))
}
