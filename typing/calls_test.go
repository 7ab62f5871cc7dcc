package typing_test

import (
	"testing"

	"transputer/api"
)

func call(name string, l ...api.Expr) api.Process {
	return api.Process{Kind: api.PrCall, Name: name, Exprs: l}
}

// isVariable tells whether x is a name, or a name with an index, that is specified as a variable in an environment where no name is hidden.
func isVariable(x api.Expr, l []api.Spec) bool {
	for _, s := range l {
		for _, name := range s.Names {
			if name == x.S {
				return (x.Kind == api.ExName || x.Kind == api.ExIndex) && (s.Kind == api.SpDeclare || s.Kind == api.SpIs)
			}
		}
	}
	return false
}

// P13.2: each kind of formal with each kind of actual.
func TestActuals(t *testing.T) {
	l := append(env("PROTOCOL p IS INT:"), operandsEnv()...)
	formals := oddTypes()
	for _, a := range operands() {
		if a.e == api.OK {
			formals = append(formals, a.t)
		}
	}
	for _, x := range append(formals, typ("[5]INT"), typ("CHAN OF BOOL"), typ("[3]CHAN OF p"), typ("CHAN OF pp")) {
		for _, val := range []bool{false, true} {
			q := api.Spec{Kind: api.SpProc, Names: []string{"r"}, Formals: []api.Formal{{Val: val, Type: x, Name: "x"}}}
			around := append(l[:len(l):len(l)], q)
			for _, a := range operands() {
				want := a.e
				if want == api.OK && (a.t != x || !val && isSimpleType(x) && !isVariable(a.x, l)) {
					want = api.ErrTyping
				}
				checkProcess(t, call("r", a.x), around, want)
			}
		}
	}
}

// P13.2: the same, written out.
func TestCalls(t *testing.T) {
	l := append(slotsEnv(), env("PROC none()/.SKIP/:/PROC val(VAL INT x, VAL BYTE y, VAL BOOL z)/.SKIP/:/PROC var(INT x, BYTE y, BOOL z)/.SKIP/:",
		"PROC arrays([4]INT x, [6]BOOL y)/.SKIP/:/PROC timer(TIMER x)/.SKIP/:/PROC chans(CHAN OF INT x, CHAN OF BYTE y, [3]CHAN OF INT z)/.SKIP/:/PROC protos(CHAN OF pair x, [2]CHAN OF some y)/.SKIP/:")...)
	checkAll(t, l, api.OK,
		"none()", "val(1, 'a', TRUE)", "val(k, kb, kf)", "val(i + j, BYTE i, NOT f)", "val(v[0], w[0], g[0])", "val(SIZE v, ab, i = j)", "var(i, b, f)", "var(a, ab, af)", "var(v[i], w[5], g[SIZE g])",
		"arrays(v, g)", "timer(t)", "chans(c, cb, cc)", "chans(cc[1], cb, cc)", "protos(cp, ccs)", "protos(ccp[0], ccs)",
		"PROC none(INT x)/.none()/:/none(i)", "PROC r([4]INT v, TIMER u)/.SEQ/..arrays(v, g)/..timer(u)/:/r(v, t)", "PROC r(CHAN OF pair x)/.protos(x, ccs)/:/r(ccp[1])", "SEQ n = 0 FOR 2/.val(n, b, f)")
	checkAll(t, l, api.ErrScope,
		"nobody()", "nobody(1)", "nobody(u)", "u()", "val(u, 1, 1)", "val(1, u, 1)", "val(1, 'a', u)", "var(u, u, u)", "var(i, u, i)", "arrays(v, u)", "timer(u)", "chans(c, u, c)", "chans(cc[u], c, c)", "PROC r()/.r()/:/SKIP",
		"SEQ/.PROC r()/..SKIP/.:/.r()/.r()")
	checkAll(t, l, api.ErrTyping,
		"none(1)", "none(u)", "val()", "val(1)", "val(1, 'a')", "val(u, u)", "val(1, 'a', TRUE, TRUE)", "val(1, 'a', TRUE, u)", "val(1, 1, TRUE)", "val('a', 'a', TRUE)", "val(1, 'a', 1)", "val(v, 'a', TRUE)", "val(c, 'a', TRUE)",
		"val(TRUE, u, u)", "val(1, 1, u)", "var(1, b, f)", "var(k, b, f)", "var(i, kb, f)", "var(i, b, kf)", "var(i + j, b, f)", "var(i, b, TRUE)", "var(b, b, f)", "var(i, i, f)", "var(i, b, i)", "var(v, b, f)", "var((SIZE v), b, f)",
		"var(k, u, u)", "arrays(v, v)", "arrays(v[0], g)", "arrays(v, w)", "arrays(i, g)", "arrays(v, f)", "timer(i)", "timer(1)", "timer(c)", "chans(cb, cb, cc)", "chans(c, c, cc)", "chans(cc, cb, cc)", "chans(c, cb, c)",
		"chans(cp, cb, cc)", "chans(t, cb, cc)", "chans(i, cb, cc)", "protos(c, ccs)", "protos(cs, ccs)", "protos(cp, ccp)", "protos(cp, cs)", "protos(ccp, ccs)", "i()", "k()", "v(1)", "t()", "c()", "pair()", "some(1)", "a(u)",
		"SEQ n = 0 FOR 2/.n()", "SEQ n = 0 FOR 2/.var(n, b, f)", "INT none:/none()", "PROC r(INT x)/.SKIP/:/PROC r()/.SKIP/:/r(i)", "PROC r(VAL INT x)/.var(x, b, f)/:/SKIP")
}

// P13.2: calls of names of each kind of specification, with as many actuals as there are formals, and with one more.
func TestKindsOfCalls(t *testing.T) {
	for _, k := range kinds {
		for _, names := range [][]string{{"x"}, {"y", "x"}, {"x", "x"}, {"x", "y"}} {
			want := api.ErrTyping
			if k == api.SpProc {
				want = api.OK
			}
			l := append(env("BOOL f:"), named(k, typ("INT"), names...))
			checkProcess(t, call("x", value("f")), l, want)
			checkProcess(t, call("x"), l, api.ErrTyping)
			checkProcess(t, call("x", value("f"), value("f")), l, api.ErrTyping)
			checkProcess(t, call("z", value("f")), l, api.ErrScope)
		}
	}
}

// P13.2: channels whose protocol has a name. It must name the same specification where the formal's type and where the actual's type are written, or none there.
func TestSameProtocol(t *testing.T) {
	const ints, c, q = "PROTOCOL p IS INT:", "CHAN OF p c:/[2]CHAN OF p cc:", "PROC q(CHAN OF p x, [2]CHAN OF p y)/.SKIP/:"
	uses := []string{"q(c, cc)", "q(cc[1], cc)", "PROC r(CHAN OF INT c)/.SKIP/:/q(c, cc)", "SEQ p = 0 FOR 1/.q(c, cc)", "BYTE p:/q(cc[0], cc)", ints + "/q(c, cc)"}
	for s, want := range map[string]api.Errno{
		ints + "/" + c + "/" + q:                                             api.OK,
		ints + "/" + q + "/" + c:                                             api.OK,
		ints + "/" + q + "/" + c + "/PROTOCOL p IS BYTE:":                    api.OK,
		ints + "/INT x, y, cc, q:/" + c + "/BYTE q:/" + q:                    api.OK,
		ints + "/" + q + "/" + ints + "/" + c:                                api.ErrTyping,
		ints + "/" + c + "/" + ints + "/" + q:                                api.ErrTyping,
		ints + "/" + c + "/PROTOCOL p IS BYTE:/" + q:                         api.ErrTyping,
		ints + "/" + c + "/INT p:/" + q:                                      api.ErrTyping,
		ints + "/CHAN OF p c:/" + q + "/PROTOCOL p IS INT:/[2]CHAN OF p cc:": api.ErrTyping,
		c + "/" + q:                    api.OK,
		q + "/" + c:                    api.OK,
		q + "/" + c + "/" + ints:       api.OK,
		c + "/" + ints + "/" + q:       api.ErrTyping,
		q + "/" + ints + "/" + c:       api.ErrTyping,
		"INT p:/" + c + "/" + q:        api.OK,
		"INT p:/" + c + "/INT p:/" + q: api.ErrTyping,
		"PROC p()/.SKIP/:/" + c + "/INT c:/" + c + "/" + q:   api.OK,
		ints + "/" + ints + "/" + c + "/" + q + "/INT x:":    api.OK,
		ints + "/" + c + "/" + q + "/" + c + "/INT x:":       api.OK,
		ints + "/" + c + "/" + ints + "/" + q + "/" + c:      api.OK,
		ints + "/" + q + "/" + ints + "/" + c + "/" + q:      api.OK,
		ints + "/" + c + "/" + ints + "/" + c + "/" + q:      api.OK,
		"PROTOCOL p/.CASE/..a/:/" + c + "/" + ints + "/" + q: api.ErrTyping,
	} {
		checkAll(t, env(s), want, uses...)
	}
	l := env(ints + "/CHAN OF p c, p:/[2]CHAN OF p cc:/" + q)
	checkAll(t, l, api.OK, "q(cc[0], cc)")
	checkAll(t, l, api.ErrTyping, "q(c, cc)", "q(p, cc)")
}

// P13.2: the same where the specifications are those of the process.
func TestSameProtocolInside(t *testing.T) {
	const ints, c, q = "PROTOCOL p IS INT:", "CHAN OF p c:", "PROC q(CHAN OF p x)/.SKIP/:"
	checkAll(t, nil, api.OK,
		ints+"/"+c+"/"+q+"/q(c)", ints+"/"+q+"/"+c+"/q(c)", ints+"/"+q+"/"+c+"/"+ints+"/q(c)", ints+"/"+q+"/PROC r(INT p, CHAN OF p c)/.q(c)/:/SKIP", ints+"/"+q+"/PROC r([3]CHAN OF p c, INT p)/.q(c[p])/:/SKIP",
		ints+"/PROC q(INT p, CHAN OF p x)/.SKIP/:/PROC r(INT i, CHAN OF p c)/.q(i, c)/:/SKIP", ints+"/"+q+"/PROC r(CHAN OF p c)/."+ints+"/.q(c)/:/SKIP", ints+"/PROC q(CHAN OF p p, CHAN OF p x)/.SKIP/:/"+c+"/q(c, c)",
		ints+"/"+q+"/PROC r(CHAN OF p q)/.SKIP/:/"+c+"/PAR/.q(c)/.r(c)", ints+"/PROC p(CHAN OF p x)/.SKIP/:/PROC r(CHAN OF INT x)/.SKIP/:/SKIP")
	checkAll(t, nil, api.ErrTyping,
		ints+"/"+q+"/"+ints+"/"+c+"/q(c)", ints+"/"+c+"/"+ints+"/"+q+"/q(c)", ints+"/"+q+"/"+ints+"/PROC r(CHAN OF p c)/.q(c)/:/SKIP", ints+"/"+q+"/PROC r()/."+ints+"/."+c+"/.q(c)/:/SKIP",
		ints+"/"+q+"/PROTOCOL r IS INT:/CHAN OF r c:/q(c)", ints+"/"+q+"/CHAN OF INT c:/q(c)", ints+"/"+c+"/PROC q(CHAN OF INT x)/.SKIP/:/q(c)")
	// What is in a given environment and what is in the process are in one order.
	checkAll(t, env(ints+"/"+q), api.OK, c+"/q(c)")
	checkAll(t, env(ints+"/"+c), api.OK, q+"/q(c)")
	checkAll(t, env(q), api.ErrTyping, ints+"/"+c+"/q(c)")
	checkAll(t, env(c), api.ErrTyping, ints+"/"+q+"/q(c)")
	checkAll(t, env(ints+"/"+q), api.ErrTyping, ints+"/"+c+"/q(c)")
	checkAll(t, env(q), api.ErrScope, c+"/q(c)")
}

// P13.2: two names of one protocol are two types; and a type that does not exist may name a protocol too.
func TestOddProtocols(t *testing.T) {
	both := env("PROTOCOL p IS INT:")
	both[0].Names = []string{"p", "r"}
	l := append(both, env("CHAN OF p c:/CHAN OF r d:/PROC q(CHAN OF p x)/.SKIP/:/PROC s(CHAN OF r x)/.SKIP/:")...)
	checkAll(t, l, api.OK, "q(c)", "s(d)", "c ! 1", "d ! 1")
	checkAll(t, l, api.ErrTyping, "q(d)", "s(c)")

	for _, x := range oddTypes() {
		for _, val := range []bool{false, true} {
			q := api.Spec{Kind: api.SpProc, Names: []string{"q"}, Formals: []api.Formal{{Val: val, Type: x}}}
			v := api.Spec{Kind: api.SpVal, Type: x, Names: []string{"v"}}
			p := api.Spec{Kind: 9, Names: []string{"\x00", "p", "b"}}
			same, other := []api.Spec{p, q, v, p}, []api.Spec{p, q, p, v}
			checkAll(t, same, api.OK, "q(v)")
			checkAll(t, []api.Spec{v, q}, api.OK, "q(v)")
			want := api.OK
			if !val && x.Proto != "" {
				want = api.ErrTyping
			}
			checkAll(t, other, want, "q(v)")
			checkAll(t, []api.Spec{v, p, q}, want, "q(v)")
		}
	}
}
