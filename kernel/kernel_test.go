package kernel_test

import (
	"fmt"
	"strings"
	"testing"

	"transputer/api"
	"transputer/kernel"
	"transputer/syntax"
)

// proc returns the process of a text in which rows are separated by | and their depth is the number of dots in front.
func proc(s string) api.Process {
	var l []api.Row
	for i, x := range strings.Split(s, "|") {
		text := strings.TrimLeft(x, ".")
		l = append(l, api.Row{No: i + 1, Depth: len(x) - len(text), Text: text})
	}
	p, row, e := syntax.Parse(l)
	if e != api.OK {
		panic(fmt.Sprintf("row %d of %s: %v", row, s, e))
	}
	return p
}

// shown returns the beginning of such a text of a process.
func shown(p api.Process) string {
	l, e := syntax.Print(p)
	if e != api.OK {
		return fmt.Sprintf("%v: %.300q", e, fmt.Sprint(p))
	}
	texts := make([]string, len(l))
	for i, x := range l {
		texts[i] = strings.Repeat(".", x.Depth) + x.Text
	}
	return fmt.Sprintf("%.3000s", strings.Join(texts, "|"))
}

// textOf returns the text of a kernel in the same form.
func textOf(t *testing.T, k api.Kernel) string {
	t.Helper()
	s, e := kernel.Text(k)
	if e != api.OK {
		t.Errorf("Text(%.2000s): %v", fmt.Sprint(k), e)
	}
	return dotted(s)
}

// dotted returns a text with its lines separated by |, and dots in front of them.
func dotted(s string) string {
	lines := strings.Split(strings.TrimSuffix(s, "\n"), "\n")
	for i, x := range lines {
		text := strings.TrimLeft(x, " ")
		lines[i] = strings.Repeat(".", (len(x)-len(text))/2) + text
	}
	return strings.Join(lines, "|")
}

// root returns the part of the text of a kernel that is its process.
func root(s string) string {
	lines := strings.Split(s, "|")
	for i, x := range lines {
		if len(x) > 1 && strings.Contains("vc", x[:1]) && strings.TrimLeft(x[1:], "0123456789") != x[1:] && !strings.ContainsAny(x, "?!=") {
			continue
		}
		if !strings.HasPrefix(x, "procs") {
			return strings.Join(lines[i:], "|")
		}
	}
	return ""
}

// checkMade checks the text of the kernel of a process.
func checkMade(t *testing.T, p api.Process, want string) {
	t.Helper()
	k, e := kernel.Make(p)
	if e != api.OK {
		t.Errorf("Make(%s): %v", shown(p), e)
		return
	}
	if s := textOf(t, k); s != want {
		t.Errorf("Make(%s) = %s, not %s", shown(p), s, want)
	}
	if !kernel.May(k) {
		t.Errorf("Make(%s) is not valid", shown(p))
	}
}

// checkRoots checks the texts of the processes of the kernels of some programs.
func checkRoots(t *testing.T, l [][2]string) {
	t.Helper()
	for _, c := range l {
		k, e := kernel.Make(proc(c[0]))
		if e != api.OK {
			t.Errorf("Make(%s): %v", c[0], e)
		} else if s := root(textOf(t, k)); s != c[1] {
			t.Errorf("Make(%s) = %s, not %s", c[0], s, c[1])
		}
	}
}

// checkError checks that Make returns an error, and no kernel with it.
func checkError(t *testing.T, what string, p api.Process, want api.Errno) {
	t.Helper()
	if k, e := kernel.Make(p); e != want || !kernel.Same(k, api.Kernel{}) {
		t.Errorf("Make(%s): %v, not %v, with %.200s", what, e, want, fmt.Sprint(k))
	}
}

func checkErrors(t *testing.T, want api.Errno, programs ...string) {
	t.Helper()
	for _, s := range programs {
		checkError(t, s, proc(s), want)
	}
}

// P16.2: the examples of the chapter.
func TestExamples(t *testing.T) {
	checkRoots(t, [][2]string{
		{"INT x:|SEQ|.x := 2|.to.host ! x", "seq|.clear v0|.v0 := 2|.c1 ! INT v0"},
		{"VAL INT n IS 2 + 3:|SEQ i = n FOR 2|.to.host ! i", "seq|.c1 ! INT 5|.c1 ! INT 6"},
		{"[2]CHAN OF INT c:|PAR i = 0 FOR 2|.c[i] ! i", "par|.c2 ! INT 0|.c3 ! INT 1"},
		{"PROC f (VAL INT a, INT b)|.b := a|:|[4]INT v:|INT k:|f(k, v[k + 1])", "seq|.clear v0|.clear v1|.v2 := v1|.v3 := v1 + 1|.v0[v3] := v2"},
		{"INT k:|CASE k|.1, 2|..STOP|.ELSE|..SKIP", "seq|.clear v0|.v1 := v0|.if|..(v1 = 1) OR (v1 = 2)|...stop|..1|...skip"},
	})
	checkErrors(t, api.ErrConst, "INT n:|PAR i = 0 FOR n|.SKIP")

	k, e := kernel.Make(proc("to.host ! 7"))
	want := api.Kernel{Chans: []api.HostKind{api.HostIn, api.HostOut}, Root: api.KProc{Kind: api.KpOut, C: 1, Item: api.TyInt, E: []api.KExpr{{Kind: api.KxNumber, N: 7}}}}
	if e != api.OK || !kernel.Same(k, want) {
		t.Errorf("%v, %v", k, e)
	}
}

// made returns the kernel of a program that has one.
func made(t *testing.T, s string) api.Kernel {
	t.Helper()
	k, e := kernel.Make(proc(s))
	if e != api.OK {
		t.Errorf("Make(%s): %v", s, e)
	}
	return k
}
