package typing_test

import (
	"fmt"
	"slices"
	"strings"
	"testing"

	"transputer/api"
	"transputer/expr"
	"transputer/lex"
	"transputer/syntax"
	"transputer/types"
	"transputer/typing"
)

// proc returns the process of a text in which rows are separated by / and their depth is the number of dots in front.
func proc(s string) api.Process {
	var l []api.Row
	for i, x := range strings.Split(s, "/") {
		text := strings.TrimLeft(x, ".")
		l = append(l, api.Row{No: i + 1, Depth: len(x) - len(text), Text: text})
	}
	p, row, e := syntax.Parse(l)
	if e != api.OK {
		panic(fmt.Sprintf("row %d of %s: %v", row, s, e))
	}
	return p
}

// value returns the expression of a text.
func value(s string) api.Expr {
	l, _, e := lex.Tokens(s)
	if e != api.OK {
		panic(fmt.Sprintf("%s: %v", s, e))
	}
	x, n, e := expr.Front(l)
	if e != api.OK || n != len(l) {
		panic(fmt.Sprintf("%s: %v", s, e))
	}
	return x
}

// env returns the specifications of a text of rows, and those of the others behind them.
func env(texts ...string) (l []api.Spec) {
	for _, s := range texts {
		for p := proc(s + "/SKIP"); p.Kind == api.PrSpec; p = p.L[0] {
			l = append(l, p.Spec)
		}
	}
	return l
}

// typ returns the type of a text.
func typ(s string) api.Type {
	l, _, e := lex.Tokens(s)
	if e != api.OK {
		panic(fmt.Sprintf("%s: %v", s, e))
	}
	t, n, e := types.Front(l)
	if e != api.OK || n != len(l) {
		panic(fmt.Sprintf("%s: %v", s, e))
	}
	return t
}

// shown returns a text of a process.
func shown(p api.Process) string {
	l, e := syntax.Print(p)
	if e != api.OK {
		return fmt.Sprintf("%v: %.300q", e, fmt.Sprint(p))
	}
	texts := make([]string, len(l))
	for i, x := range l {
		texts[i] = strings.Repeat(".", x.Depth) + x.Text
	}
	return strings.Join(texts, "/")
}

// exprText returns a text of an expression.
func exprText(x api.Expr) string {
	l, e := expr.Tokens(x)
	if e != api.OK {
		return fmt.Sprintf("%v: %.300q", e, fmt.Sprint(x))
	}
	s, e := lex.Text(l)
	if e != api.OK {
		return fmt.Sprintf("%v: %.300q", e, fmt.Sprint(x))
	}
	return s
}

// briefly returns a text of what is innermost in an environment.
func briefly(l []api.Spec) string {
	var b strings.Builder
	fmt.Fprintf(&b, "%d specifications", len(l))
	for _, s := range l[max(0, len(l)-40):] {
		fmt.Fprintf(&b, "; %d of %.40q, %v, %v, %v", s.Kind, fmt.Sprint(s.Names), s.Type, s.Proto, s.Formals)
	}
	return b.String()
}

func checkType(t *testing.T, x api.Expr, l []api.Spec, want api.Type) {
	t.Helper()
	if got, e := typing.Of(x, l); got != want || e != api.OK {
		t.Errorf("Of(%s) = %+v, %d, not %+v; with %s", exprText(x), got, e, want, briefly(l))
	}
}

func checkNoType(t *testing.T, x api.Expr, l []api.Spec, want api.Errno) {
	t.Helper()
	if got, e := typing.Of(x, l); got != (api.Type{}) || e != want {
		t.Errorf("Of(%s) = %+v, %d, not the error %d; with %s", exprText(x), got, e, want, briefly(l))
	}
}

// checkOf checks Of of the text of an expression; want is the text of a type, or scope or typing for ErrScope or ErrTyping.
func checkOf(t *testing.T, s string, l []api.Spec, want string) {
	t.Helper()
	switch want {
	case "scope":
		checkNoType(t, value(s), l, api.ErrScope)
	case "typing":
		checkNoType(t, value(s), l, api.ErrTyping)
	default:
		checkType(t, value(s), l, typ(want))
	}
}

func checkProcess(t *testing.T, p api.Process, l []api.Spec, want api.Errno) {
	t.Helper()
	if e := typing.Check(p, l); e != want {
		t.Errorf("Check(%s) = %d, not %d; with %s", shown(p), e, want, briefly(l))
	}
}

// checkAll checks Check of the texts of processes.
func checkAll(t *testing.T, l []api.Spec, want api.Errno, texts ...string) {
	t.Helper()
	for _, s := range texts {
		checkProcess(t, proc(s), l, want)
	}
}

// P13.1, P13.2: the examples of the chapter.
func TestExamples(t *testing.T) {
	checkOf(t, "v[1] = 'a'", env("[3]BYTE v:"), "BOOL")
	checkAll(t, env("BYTE b:"), api.ErrTyping, "b := 1")

	l := env("INT x:/[4]INT v:/VAL BYTE k IS 'a':/TIMER t:/PROTOCOL p IS INT; BOOL:/CHAN OF p c:")
	for s, want := range map[string]string{
		"x + v[x]": "INT", "x + k": "typing", "SIZE v": "INT", "SIZE x": "typing", "y": "scope", "v": "[4]INT",
		"BYTE (x > 3)": "BYTE", "x << k": "typing", "NOT (x AFTER 1)": "BOOL", "v[k]": "typing",
	} {
		checkOf(t, s, l, want)
	}
	checkAll(t, l, api.OK, "c ! x; x = 1", "t ? x", "t ? AFTER x PLUS 10")
	checkAll(t, l, api.ErrTyping, "c ! x", "k := 'b'", "SEQ i = 0 FOR x/.i := 1")
}

// P13.2: Host, whose result is new memory each time.
func TestHost(t *testing.T) {
	want := env("CHAN OF INT from.host:/CHAN OF INT to.host:")
	for range 2 {
		l := typing.Host()
		if !slices.EqualFunc(l, want, sameSpec) {
			t.Fatalf("Host() = %+v", l)
		}
		for _, name := range []string{api.FromHost, api.ToHost} {
			checkOf(t, name, l, "CHAN OF INT")
		}
		l[0].Names[0], l[1].Names[0] = "to.host", "x"
		l[0].Type.Item, l[1].Kind = api.TyBool, api.SpVal
		checkOf(t, "to.host", l, "CHAN OF BOOL")
		checkOf(t, "from.host", l, "scope")
	}
	checkAll(t, typing.Host(), api.OK, "INT x:/SEQ/.from.host ? x/.to.host ! x + 1")
	checkAll(t, typing.Host(), api.ErrTyping, "BYTE x:/from.host ? x", "to.host ! 'a'")
	checkAll(t, nil, api.ErrScope, "INT x:/from.host ? x", "to.host ! 1")
}

func sameSpec(a, b api.Spec) bool {
	in := func(s api.Spec) api.Process { return api.Process{Kind: api.PrSpec, Spec: s} }
	return syntax.Same(in(a), in(b))
}
