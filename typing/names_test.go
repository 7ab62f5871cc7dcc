package typing_test

import (
	"slices"
	"testing"

	"transputer/api"
)

// named returns a specification of some names; the fields that its kind should not have are there as well.
func named(k api.SpecKind, t api.Type, names ...string) api.Spec {
	return api.Spec{
		Kind: k, Type: t, Names: names, E: value("u"), Proto: api.Proto{Cases: true, L: []api.Variant{{Tag: "a"}}},
		Formals: []api.Formal{{Name: "x", Type: typ("BOOL")}}, Body: []api.Process{{}},
	}
}

// kinds are all kinds of specifications, and some that there are not.
var kinds = []api.SpecKind{api.NoSpec, api.SpDeclare, api.SpVal, api.SpIs, api.SpProto, api.SpProc, api.SpProc + 1, 255}

func isTyped(k api.SpecKind) bool { return k == api.SpDeclare || k == api.SpVal || k == api.SpIs }

// P13.1: names whose specification is of each kind, alone, with an index and after SIZE. No specification needs to be valid.
func TestKindsOfNames(t *testing.T) {
	for _, k := range kinds {
		for _, x := range append(oddTypes(), typ("INT"), typ("[3]BYTE"), typ("TIMER"), typ("[2]CHAN OF p"), typ("CHAN OF BOOL")) {
			l := []api.Spec{named(k, x, "x")}
			e, array := api.OK, api.OK
			if !isTyped(k) {
				e, array = api.ErrTyping, api.ErrTyping
			}
			if x.Dim <= 0 {
				array = api.ErrTyping
			}
			checkOutcome(t, value("x"), l, x, e)
			checkOutcome(t, value("SIZE x"), l, typ("INT"), array)
			x.Dim = 0
			checkOutcome(t, value("x[1]"), l, x, array)
			checkOf(t, "u", l, "scope")
			checkOf(t, "u[x]", l, "scope")
		}
	}
}

// P13.1: a name without a specification.
func TestNoSpecification(t *testing.T) {
	for _, l := range [][]api.Spec{
		nil, {}, env("INT x:"), env("INT xx, X, y.x:"), {{}}, {{Kind: api.SpDeclare, Type: typ("INT")}}, {named(api.SpDeclare, typ("INT"), "", "x ", " x", "x\x00")},
		{named(api.SpProto, typ("INT"), "x")}, env("PROTOCOL x/.CASE/..y; INT/:"), env("PROC x(INT y)/.INT y:/.y := 1/:"), env("VAL INT x IS y:"), env("CHAN OF y x:"),
	} {
		for _, s := range []string{"y", "y[1]", "SIZE y", "y + 1", "1 + y", "NOT y", "BYTE y", "y[y]", "(1 + 1) + (BYTE y)"} {
			checkOf(t, s, l, "scope")
		}
	}
}

// P13.1: the last one of the specifications in which a name occurs is that of the name, whatever its kind is, and wherever in its Names the name stands.
func TestHiding(t *testing.T) {
	outer, inner := typ("INT"), typ("[2]CHAN OF p")
	for _, k := range kinds {
		for _, names := range [][]string{{"x"}, {"x", "y"}, {"y", "x"}, {"y", "x", "z"}, {"x", "x"}, {"x", "y", "x"}, {"", "x"}, slices.Repeat([]string{"z"}, 100), append(slices.Repeat([]string{"z"}, 100), "x")} {
			l := append(env("BYTE x:", "BOOL y:"), named(api.SpDeclare, outer, "x"), named(k, inner, names...), named(api.SpVal, typ("BYTE"), "a", "b"))
			switch {
			case !slices.Contains(names, "x"):
				checkType(t, value("x"), l, outer)
			case isTyped(k):
				checkType(t, value("x"), l, inner)
			default:
				checkNoType(t, value("x"), l, api.ErrTyping)
			}
			l[3], l[2] = l[2], l[3]
			checkType(t, value("x"), l, outer)
			checkOf(t, "a", l, "BYTE")
			checkOf(t, "x", append(l, env("BOOL x:")...), "BOOL")
			checkOf(t, "x", append(l, env("PROTOCOL x IS INT:")...), "typing")
		}
	}
}

// P13.1: what is in an environment beside the names that are used makes no difference: other fields, bodies, protocols that there are not.
func TestOtherFields(t *testing.T) {
	s := named(api.SpDeclare, typ("[3]BYTE"), "x")
	l := append(env("CHAN OF none c:/PROC p(CHAN OF none c)/.u := 1/:/VAL BYTE k IS u:/INT a IS u:"), s)
	checkOf(t, "x[SIZE x]", l, "BYTE")
	checkOf(t, "x", l, "[3]BYTE")
	checkOf(t, "c", l, "CHAN OF none")
	checkOf(t, "k", l, "BYTE")
	checkOf(t, "p", l, "typing")
}
