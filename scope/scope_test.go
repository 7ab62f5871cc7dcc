package scope_test

import (
	"fmt"
	"slices"
	"strings"
	"testing"

	"transputer/api"
	"transputer/scope"
	"transputer/syntax"
)

// proc returns the process of a text in which rows are separated by / and their depth is the number of dots in front.
func proc(s string) api.Process {
	var l []api.Row
	for i, x := range strings.Split(s, "/") {
		text := strings.TrimLeft(x, ".")
		l = append(l, api.Row{No: i + 1, Depth: len(x) - len(text), Text: text})
	}
	p, row, e := syntax.Parse(l)
	if e != api.OK {
		panic(fmt.Sprintf("row %d of %s: %v", row, s, e))
	}
	return p
}

// shown returns such a text of a process.
func shown(p api.Process) string {
	l, e := syntax.Print(p)
	if e != api.OK {
		return fmt.Sprintf("%v: %.300q", e, fmt.Sprint(p))
	}
	texts := make([]string, len(l))
	for i, x := range l {
		texts[i] = strings.Repeat(".", x.Depth) + x.Text
	}
	return strings.Join(texts, "/")
}

func checkFree(t *testing.T, p api.Process, want string) {
	t.Helper()
	if l, e := scope.Free(p); e != api.OK || !slices.Equal(l, strings.Fields(want)) {
		t.Errorf("Free(%s) = %q, %d, not %q", shown(p), l, e, want)
	}
}

func checkCheck(t *testing.T, p api.Process, names []string, want string, e api.Errno) {
	t.Helper()
	if name, f := scope.Check(p, names); name != want || f != e {
		t.Errorf("Check(%s, %.300q) = %q, %d, not %q, %d", shown(p), names, name, f, want, e)
	}
}

func checkUnique(t *testing.T, p, want api.Process) {
	t.Helper()
	if q, e := scope.Unique(p); e != api.OK || !syntax.Same(q, want) {
		t.Errorf("Unique(%s) = %s, %d, not %s", shown(p), shown(q), e, shown(want))
	}
}

func checkAlike(t *testing.T, a, b api.Process, want bool) {
	t.Helper()
	if scope.Alike(a, b) != want || scope.Alike(b, a) != want {
		t.Errorf("Alike of %s and %s is not %t", shown(a), shown(b), want)
	}
}

// P12.1: the examples of the chapter.
func TestExamples(t *testing.T) {
	checkFree(t, proc("INT x:/x := y + 1"), "y")
	checkUnique(t, proc("INT x, y:/x := z"), proc("INT n1, n2:/n1 := z"))

	checkFree(t, proc("x := y + v[i]"), "i v x y")
	checkFree(t, proc("INT x:/x := x"), "")
	checkUnique(t, proc("INT x:/x := x"), proc("INT n1:/n1 := n1"))
	checkFree(t, proc("VAL INT x IS x:/y := x"), "x y")
	checkCheck(t, proc("VAL INT x IS x:/y := x"), []string{"y"}, "x", api.ErrScope)
	checkFree(t, proc("SEQ x = x FOR 3/.y := x"), "x y")
	checkUnique(t, proc("SEQ x = x FOR 3/.y := x"), proc("SEQ n1 = x FOR 3/.y := n1"))
	checkCheck(t, proc("INT x, x:/SKIP"), nil, "x", api.ErrTwice)
	checkFree(t, proc("PROC p()/.p()/:/p()"), "p")
	checkFree(t, proc("PROTOCOL q/.CASE/..a/..b/:/CHAN OF q c:/c ! a"), "")
	checkAlike(t, proc("INT x:/x := 1"), proc("INT y:/y := 1"), true)
}

// P12.1: a process without names, one whose names are all declared, and one whose names are all free.
func TestPlain(t *testing.T) {
	for _, s := range []string{"SKIP", "STOP", "SEQ", "PAR/.SKIP/.SEQ", "WHILE TRUE/.SKIP", "PLACED PAR/.PROCESSOR 7/..STOP"} {
		p := proc(s)
		checkFree(t, p, "")
		checkCheck(t, p, nil, "", api.OK)
		checkUnique(t, p, p)
		checkAlike(t, p, p, true)
	}
	p := proc("INT x:/CHAN OF INT c:/PAR/.c ! 1/.c ? x")
	checkFree(t, p, "")
	checkCheck(t, p, nil, "", api.OK)
	p = proc("PAR/.c ! b/.c ? a/.from.host ? A/.b := a")
	checkFree(t, p, "A a b c from.host")
	checkUnique(t, p, p)
}

// P12.1, R6: names are in byte order, whatever the order of occurrence is.
func TestFreeOrder(t *testing.T) {
	checkFree(t, proc("SEQ/.b := a1/.a := aa/.a.b := a2/.B := a10/.b := a.a"), "B a a.a a.b a1 a10 a2 aa b")
}

// P12.1: the names that are given to Check may be any.
func TestGivenNames(t *testing.T) {
	p := proc("INT x:/SEQ/.x := y/.z := y")
	for _, c := range []struct {
		names string
		want  string
		e     api.Errno
	}{
		{"", "y", api.ErrScope},
		{"y", "z", api.ErrScope},
		{"z", "y", api.ErrScope},
		{"x", "y", api.ErrScope},
		{"Y yy y. Z", "y", api.ErrScope},
		{"y z", "", api.OK},
		{"z y", "", api.OK},
		{"z z y y z", "", api.OK},
		{"x y z", "", api.OK},
		{"q x z a y b", "", api.OK},
	} {
		names := strings.Split(c.names, " ")
		checkCheck(t, p, names, c.want, c.e)
		checkCheck(t, p, append(names, "", "\x00", "SKIP", strings.Repeat("y", 1<<16)), c.want, c.e)
	}
	checkCheck(t, p, nil, "y", api.ErrScope)
	checkCheck(t, p, []string{}, "y", api.ErrScope)
	checkCheck(t, p, append(make([]string, 1<<20), "z", "y"), "", api.OK)
	checkCheck(t, proc("SEQ/.INT x:/.x := 1/.x := 2"), []string{"x"}, "", api.OK)
	checkCheck(t, proc("INT x, x:/SKIP"), []string{"x"}, "x", api.ErrTwice)
}
