package typing_test

import (
	"slices"
	"strings"
	"testing"

	"transputer/api"
)

// channelUses are processes that need the protocol of the channel c; the first ones are right if it is INT, the last one if a is its only variant.
var channelUses = []string{"c ? i", "c ! 1", "ALT/.c ? i/..SKIP", "PRI ALT/.TRUE & c ? i/..SKIP", "PROC r(VAL INT y)/.c ! y/:/SKIP", "SEQ n = 0 FOR 2/.c ! n", "c ! a", "c ? CASE/.a/..SKIP"}

const onlyInt = 6

// checkUses checks all uses of a channel c, which give e if that is an error. Otherwise its protocol is INT if it is plain, and if it is not, a is its only variant.
func checkUses(t *testing.T, l []api.Spec, plain bool, e api.Errno) {
	t.Helper()
	l = append(env("INT i:"), l...)
	for i, s := range channelUses {
		want := e
		if e == api.OK && plain != (i < onlyInt) {
			want = api.ErrTyping
		}
		// The name of the tag may be that of anything; in a protocol of one item it is an expression.
		if e == api.OK && plain && s == "c ! a" {
			want = api.ErrScope
		}
		checkAll(t, l, want, s)
	}
}

// P13.2: where the protocol of a channel is looked up: around its specification.
func TestProtocolNames(t *testing.T) {
	const ints, tags = "PROTOCOL p IS INT:", "PROTOCOL p/.CASE/..a/:"
	for s, want := range map[string]api.Errno{
		"CHAN OF INT c:":                     api.OK,
		ints + "/CHAN OF p c:":               api.OK,
		ints + "/INT x:/CHAN OF p c:/INT y:": api.OK,
		ints + "/CHAN OF p c:/BYTE p:":       api.OK,
		ints + "/CHAN OF p c:/" + tags:       api.OK,
		ints + "/CHAN OF p c:/PROTOCOL p IS BYTE:/CHAN OF p d:/PROC p()/.SKIP/:": api.OK,
		tags + "/" + ints + "/CHAN OF p c:":                                      api.OK,
		"BOOL p:/" + ints + "/CHAN OF p c:":                                      api.OK,
		ints + "/CHAN OF p p:/CHAN OF p p, c:":                                   api.ErrTyping,
		"CHAN OF p c:":                                                           api.ErrScope,
		"CHAN OF p c:/" + ints:                                                   api.ErrScope,
		"CHAN OF c c:":                                                           api.ErrScope,
		"CHAN OF p p, c:/PROTOCOL c IS INT:/CHAN OF p c:":                        api.ErrTyping,
		"PROTOCOL P IS INT:/CHAN OF p c:":                                        api.ErrScope,
		ints + "/INT p:/CHAN OF p c:":                                            api.ErrTyping,
		ints + "/VAL INT p IS 1:/CHAN OF p c:":                                   api.ErrTyping,
		ints + "/INT p IS i:/CHAN OF p c:":                                       api.ErrTyping,
		ints + "/PROC p()/.SKIP/:/CHAN OF p c:":                                  api.ErrTyping,
		ints + "/CHAN OF INT p:/CHAN OF p c:":                                    api.ErrTyping,
		"PROTOCOL c IS INT:/CHAN OF c c:/BYTE b:":                                api.OK,
	} {
		checkUses(t, env(s), true, want)
	}
	for _, s := range []string{tags + "/CHAN OF p c:", ints + "/" + tags + "/CHAN OF p c:/" + ints, tags + "/CHAN OF p c:/INT p:", tags + "/BYTE a:/CHAN OF p c:/BOOL a:"} {
		checkUses(t, env(s), false, api.OK)
	}
}

// P13.2: the same for channels that are declared in the process, and for formals, whose types are written around the PROC.
func TestProtocolPlaces(t *testing.T) {
	const ints, tags, inner = "PROTOCOL p IS INT:", "PROTOCOL p/.CASE/..a/:", ".PROTOCOL p/..CASE/...a/.:"
	l := env("INT i:")
	checkAll(t, l, api.OK,
		ints+"/CHAN OF p c:/c ! 1", ints+"/CHAN OF p c:/INT p:/c ! p", ints+"/CHAN OF p p:/p ! 1", ints+"/CHAN OF p c:/"+tags+"/c ? i",
		tags+"/CHAN OF p c:/"+ints+"/c ! a", ints+"/CHAN OF p c:/SEQ p = 0 FOR 3/.c ! p", ints+"/"+tags+"/CHAN OF p c:/PAR/.c ! a/.c ? CASE/..a/...SKIP",
		"SEQ/."+ints+"/.CHAN OF p c:/.c ! 1/"+inner+"/.CHAN OF p c:/.c ! a",
		ints+"/PROC q(CHAN OF p c)/.c ! 1/:/SKIP", ints+"/PROC q(INT p, CHAN OF p c)/.c ! p/:/SKIP", ints+"/PROC q(CHAN OF p c, INT p)/.c ? p/:/SKIP",
		ints+"/PROC q(CHAN OF p p, CHAN OF p c)/.SEQ/..c ! 1/..p ! 1/:/SKIP", ints+"/PROC q([2]CHAN OF p c)/"+inner+"/.c[1] ? i/:/SKIP",
		ints+"/PROC q(VAL INT p, CHAN OF p c)/.PROC r(CHAN OF INT p)/..PAR/...c ? i/...p ? i/.:/.c ! p/:/SKIP",
		tags+"/PROC q(INT a, CHAN OF p p)/.p ! a/:/"+ints+"/SKIP", ints+"/PROC q(CHAN OF p c)/"+inner+"/.c ! 1/:/SKIP", ints+"/PROC p(CHAN OF p c)/.c ! 1/:/SKIP")
	checkAll(t, l, api.ErrScope,
		"CHAN OF p c:/SKIP", "CHAN OF p p:/SKIP", "CHAN OF p c:/"+ints+"/SKIP", "SEQ/."+ints+"/.SKIP/.CHAN OF p c:/.SKIP", "PROC q(CHAN OF p c)/.SKIP/:/SKIP",
		"PROC q(CHAN OF q c)/.SKIP/:/SKIP", "PROC q(INT p, CHAN OF p c)/.SKIP/:/SKIP", "PROC q(CHAN OF p c, INT p)/.SKIP/:/SKIP", "PROC q()/."+ints+"/.SKIP/:/CHAN OF p c:/SKIP",
		"PROC q([2]CHAN OF p c)/."+ints+"/.SKIP/:/SKIP", "PROC q(CHAN OF INT c, CHAN OF c d)/.SKIP/:/SKIP")
	checkAll(t, l, api.ErrTyping,
		"CHAN OF i c:/SKIP", ints+"/INT p:/CHAN OF p c:/SKIP", ints+"/CHAN OF p p:/CHAN OF p c:/SKIP", "PROC q(INT p, CHAN OF i c)/.SKIP/:/SKIP", ints+"/SEQ p = 0 FOR 1/.CHAN OF p c:/.SKIP",
		ints+"/PROC q(INT p)/.CHAN OF p c:/.SKIP/:/SKIP", ints+"/PROC p(CHAN OF p c)/.SKIP/:/CHAN OF p c:/SKIP", ints+"/PROC q(CHAN OF p p)/.PROC r(CHAN OF p c)/..SKIP/.:/.SKIP/:/SKIP",
		ints+"/CHAN OF p c:/"+tags+"/c ! 'a'", tags+"/CHAN OF p c:/"+ints+"/c ! 1", ints+"/PROC q(CHAN OF p c)/"+inner+"/.CHAN OF p d:/.d ! 1/:/SKIP")
}

// wrongProtocols are protocols that do not exist.
func wrongProtocols() []api.Proto {
	one := func(k ...api.TypeKind) []api.Variant { return []api.Variant{{Items: k}} }
	var many []api.Variant
	for i := range api.MaxTags + 1 {
		many = append(many, api.Variant{Tag: "t" + string(rune('a'+i))})
	}
	return []api.Proto{
		{}, {Cases: true}, {L: one()}, {L: one(api.TyInt, api.TyChan)}, {L: one(api.TyTimer)}, {L: one(api.NoType)}, {L: one(200)}, {L: slices.Repeat(one(api.TyInt), 2)},
		{L: one(slices.Repeat([]api.TypeKind{api.TyInt}, api.MaxItems+1)...)}, {L: []api.Variant{{Tag: "a", Items: []api.TypeKind{api.TyInt}}}}, {Cases: true, L: one()}, {Cases: true, L: one(api.TyInt)},
		{Cases: true, L: []api.Variant{{Tag: "a"}, {Tag: "a"}}}, {Cases: true, L: []api.Variant{{Tag: "a"}, {Tag: "1"}}}, {Cases: true, L: []api.Variant{{Tag: "a", Items: []api.TypeKind{api.TyChan}}}},
		{Cases: true, L: many}, {Cases: true, L: []api.Variant{{Tag: "a"}, {Tag: "SEQ"}}}, {Cases: true, L: []api.Variant{{Tag: "a"}, {Tag: ""}}},
	}
}

// P13.2: protocols that are not valid, and specifications of other kinds with a protocol that is.
func TestWrongProtocols(t *testing.T) {
	right := []api.Proto{env("PROTOCOL p IS INT:")[0].Proto, env("PROTOCOL p/.CASE/..a/:")[0].Proto}
	for i, x := range append(wrongProtocols(), right...) {
		for _, k := range kinds {
			l := []api.Spec{{Kind: k, Type: typ("INT"), Names: []string{"o", "p"}, Proto: x}}
			plain, e := !x.Cases, api.ErrTyping
			if k == api.SpProto && i >= len(wrongProtocols()) {
				e = api.OK
			}
			checkUses(t, append(l, env("CHAN OF p c:")...), plain, e)
			checkUses(t, append(l, env("CHAN OF o c:/PROTOCOL o IS INT:")...), plain, e)
			checkAll(t, l, e, "CHAN OF p c:/SKIP", "[2]CHAN OF o c:/SKIP", "PROC q(CHAN OF o c)/.SKIP/:/SKIP", "PROC q(VAL INT x, [3]CHAN OF p c)/.SKIP/:/SKIP")
		}
	}
}

// P13.2: channels in the environment whose type does not exist, or that are specified otherwise.
func TestOddChannels(t *testing.T) {
	for i := range oddTypes() {
		name, x := oddName(i), oddTypes()[i]
		l := append(operandsEnv(), env("PROTOCOL p IS INT:")...)
		for _, s := range []string{" ! 1", " ? i", "[0] ! 1", "[0] ? i", " ? AFTER 1"} {
			if x.Kind == api.TyTimer && x.Dim > 0 && strings.HasPrefix(s, "[0] ?") || x.Kind == api.TyChan && x.Dim == 0 && s != " ? AFTER 1" {
				continue
			}
			checkAll(t, l, api.ErrTyping, name+s)
		}
	}
	channel := func(k api.SpecKind, t api.Type) []api.Spec {
		return append(env("PROTOCOL p IS BYTE:/TIMER t:"), api.Spec{Kind: k, Type: t, Names: []string{"b", "c"}})
	}
	for _, k := range []api.SpecKind{api.SpDeclare, api.SpVal, api.SpIs} {
		checkUses(t, channel(k, typ("CHAN OF INT")), true, api.OK)
		checkUses(t, channel(k, api.Type{Kind: api.TyChan, Dim: -1, Item: api.TyInt}), true, api.ErrTyping)
		l := channel(k, api.Type{Kind: api.TyChan, Item: api.TyInt, Proto: "p"})
		checkAll(t, l, api.OK, "c ! 'a'", "BYTE x:/c ? x")
		checkAll(t, l, api.ErrTyping, "c ! 1", "INT x:/c ? x")
		l = channel(k, api.Type{Kind: api.TyChan, Dim: 65, Proto: "p"})
		checkAll(t, l, api.OK, "c[64] ! 'a'", "BYTE x:/c[5] ? x")
		checkAll(t, l, api.ErrTyping, "c ! 'a'", "BYTE x:/c ? x", "c[64] ! 1")
	}
}

// P13.2: the item of a channel is the kind of the type, also if no variable can have this type.
func TestOddItems(t *testing.T) {
	for _, k := range []api.TypeKind{api.NoType, api.TyInt, api.TyChan, api.TyTimer, 77} {
		l := append(env("INT i:/BYTE b:/TIMER t:"), api.Spec{Kind: api.SpDeclare, Type: api.Type{Kind: api.TyChan, Item: k}, Names: []string{"c"}},
			named(api.SpDeclare, api.Type{Kind: k}, "x"), named(api.SpVal, api.Type{Kind: k, Dim: 2}, "v"), named(api.SpIs, api.Type{Kind: k, Proto: "p"}, "y"))
		checkAll(t, l, api.OK, "c ! x", "c ! v[1]", "CHAN OF INT d:/SKIP")
		checkAll(t, l, api.ErrTyping, "c ! y", "c ! v", "c ! b", "c ? b", "c ? y", "c ! x; x", "c ! x; u", "c ? CASE/.x/..SKIP", "c ! c", "c ? v[0]", "c ? c")
		checkAll(t, l, api.ErrScope, "c ! u", "c ! v[u]", "c ? u")
		e := api.ErrTyping
		if k == api.TyInt {
			e = api.OK
		}
		checkAll(t, l, e, "c ? x", "c ! i", "c ? i", "ALT/.c ? x/..SKIP", "c ! 1")
	}
}
