package kernel

import (
	"slices"

	"transputer/api"
	"transputer/expr"
	"transputer/fold"
	"transputer/typing"
)

// meaning is what a name stands for.
type meaning struct {
	// spec is what layers 13 and 14 are told of the name; of a PROTOCOL or a PROC, its own specification.
	spec api.Spec
	// value is a number, a variable, or an element of one whose index has no parts.
	value api.KExpr
	// first is the first one of its channels.
	first int
}

func number(n int32) api.KExpr { return api.KExpr{Kind: api.KxNumber, N: n} }

func variable(v int) api.KExpr { return api.KExpr{Kind: api.KxVar, V: v} }

// declared returns what the other layers are told of a variable, an element or channels.
func declared(name string, t api.Type) api.Spec {
	return api.Spec{Kind: api.SpDeclare, Type: t, Names: []string{name}}
}

// numbered returns what a name stands for that stands for a number.
func numbered(name string, t api.Type, n int32) meaning {
	literal := api.Expr{Kind: api.ExNumber, N: n}
	return meaning{spec: api.Spec{Kind: api.SpVal, Type: t, Names: []string{name}, E: literal}, value: number(n)}
}

// valued returns what a name stands for that stands for a value that is in a variable, so that it is no constant.
func valued(name string, t api.Type, v int) meaning {
	return meaning{spec: api.Spec{Kind: api.SpVal, Type: t, Names: []string{name}}, value: variable(v)}
}

// names are what the names stand for. Since all declared names of the program are different, and a procedure never runs
// inside itself, each name in a body that is elaborated still stands for what it stood for where the PROC was specified.
type names map[string]meaning

// around returns the part of the environment of an expression on which it depends: the specifications of the names in it.
func (m names) around(e api.Expr) []api.Spec {
	used := expr.Names(e)
	slices.Sort(used)
	var l []api.Spec
	for _, name := range slices.Compact(used) {
		l = append(l, m[name].spec)
	}
	return l
}

// constant returns the value of an expression that is a constant, and whether it is one.
func (m names) constant(e api.Expr) (v int32, ok bool) {
	v, f := fold.Const(e, m.around(e))
	return v, f == api.OK
}

// kindOf returns the kind of the values of an expression.
func (m names) kindOf(e api.Expr) api.TypeKind {
	t, _ := typing.Of(e, m.around(e))
	return t.Kind
}

// value returns what becomes of an expression.
func (m names) value(e api.Expr) api.KExpr {
	switch e.Kind {
	case api.ExName:
		x := m[e.S].value
		x.L = slices.Clone(x.L)
		return x
	case api.ExIndex:
		return api.KExpr{Kind: api.KxElem, V: m[e.S].value.V, L: m.values(e.L)}
	case api.ExSize:
		return number(int32(m[e.S].spec.Type.Dim))
	case api.ExMonadic:
		return api.KExpr{Kind: api.KxMonadic, Oper: e.Oper, L: m.values(e.L)}
	case api.ExDyadic:
		return api.KExpr{Kind: api.KxDyadic, Oper: e.Oper, L: m.values(e.L)}
	case api.ExConvert:
		return api.KExpr{Kind: api.KxConvert, To: e.To, L: m.values(e.L)}
	}
	return number(e.N)
}

func (m names) values(l []api.Expr) []api.KExpr {
	var values []api.KExpr
	for _, e := range l {
		values = append(values, m.value(e))
	}
	return values
}

// place returns what becomes of a target.
func (m names) place(e api.Expr) api.KPlace {
	x := m.value(e)
	return api.KPlace{V: x.V, Index: x.L}
}

func (m names) places(l []api.Expr) []api.KPlace {
	var places []api.KPlace
	for _, e := range l {
		places = append(places, m.place(e))
	}
	return places
}

// channel returns the channel that an element of a program is, or the first one of its channels.
func (m names) channel(e api.Expr) int {
	x := m[e.S]
	if e.Kind != api.ExIndex {
		return x.first
	}
	i, ok := m.constant(e.L[0])
	if !ok || i < 0 || int(i) >= x.spec.Type.Dim {
		panic(failure{api.ErrKernel})
	}
	return x.first + int(i)
}

func (m names) isTimer(e api.Expr) bool { return m[e.S].spec.Type.Kind == api.TyTimer }

// protocol returns the protocol of a channel.
func (m names) protocol(e api.Expr) api.Proto {
	t := m[e.S].spec.Type
	if t.Proto != "" {
		return m[t.Proto].spec.Proto
	}
	return api.Proto{L: []api.Variant{{Items: []api.TypeKind{t.Item}}}}
}

// items returns the kinds of the items of a channel whose protocol has no variants.
func (m names) items(e api.Expr) []api.TypeKind { return m.protocol(e).L[0].Items }
