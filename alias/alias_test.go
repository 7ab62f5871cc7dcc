package alias_test

import (
	"fmt"
	"slices"
	"strings"
	"testing"

	"transputer/alias"
	"transputer/api"
	"transputer/syntax"
)

// proc returns the process of a text in which rows are separated by / and their depth is the number of dots in front.
func proc(s string) api.Process {
	var l []api.Row
	for i, x := range strings.Split(s, "/") {
		text := strings.TrimLeft(x, ".")
		l = append(l, api.Row{No: i + 1, Depth: len(x) - len(text), Text: text})
	}
	p, row, e := syntax.Parse(l)
	if e != api.OK {
		panic(fmt.Sprintf("row %d of %s: %v", row, s, e))
	}
	return p
}

// textOf returns such a text of a process.
func textOf(p api.Process) string {
	l, e := syntax.Print(p)
	if e != api.OK {
		return fmt.Sprintf("%v: %.300q", e, fmt.Sprint(p))
	}
	texts := make([]string, len(l))
	for i, x := range l {
		texts[i] = strings.Repeat(".", x.Depth) + x.Text
	}
	return strings.Join(texts, "/")
}

// shown returns the beginning of the text of a process.
func shown(p api.Process) string { return fmt.Sprintf("%.2000s", textOf(p)) }

// checkProcess checks what Check returns for p: ErrAlias and a name, or neither.
func checkProcess(t *testing.T, p api.Process, want string) {
	t.Helper()
	e := api.OK
	if want != "" {
		e = api.ErrAlias
	}
	if name, f := alias.Check(p); name != want || f != e {
		t.Errorf("Check(%s) = %q, %d, not %q, %d", shown(p), name, f, want, e)
	}
}

func checkText(t *testing.T, s, want string) {
	t.Helper()
	checkProcess(t, proc(s), want)
}

// checkNames checks what Reads and Writes return for p.
func checkNames(t *testing.T, p api.Process, reads, writes string) {
	t.Helper()
	if l := alias.Reads(p); !slices.Equal(l, strings.Fields(reads)) {
		t.Errorf("Reads(%s) = %q, not %q", shown(p), l, reads)
	}
	if l := alias.Writes(p); !slices.Equal(l, strings.Fields(writes)) {
		t.Errorf("Writes(%s) = %q, not %q", shown(p), l, writes)
	}
}

// P15.1: the examples of the chapter.
func TestExamples(t *testing.T) {
	for _, c := range [][2]string{
		{"VAL INT x IS n:/n := 1", "x"},
		{"INT n:/VAL INT x IS n:/n := x", "x"},
		{"INT n:/INT x IS n:/n := x", "x"},
		{"INT n:/INT x IS n:/x := x + 1", ""},
		{"[4]INT a:/INT i:/INT x IS a[i]:/i := x", "x"},
		{"PROC p(INT u, INT v)/.u, v := 1, 2/:/INT n:/p(n, n)", "p"},
		{"INT n:/PROC p(INT u)/.u := n/:/p(n)", "p"},
		{"[4]INT a:/a[0], a[1] := 1, 2", "a"},
		{"c ? x; x", "x"},
	} {
		checkText(t, c[0], c[1])
	}
	checkNames(t, proc("INT x:/SEQ/.x := a/.b := x/.q(c)"), "a b c", "b c")
}

// P15.1: processes in which no rule can be broken.
func TestPlain(t *testing.T) {
	for _, s := range []string{"SKIP", "STOP", "SEQ", "ALT", "IF", "PAR/.SKIP/.SEQ", "WHILE TRUE/.SKIP", "PLACED PAR/.PROCESSOR 7/..STOP", "p()", "INT x:/x := x", "PROC p()/.SKIP/:/p()"} {
		checkText(t, s, "")
		checkNames(t, proc(s), "", "")
	}
}

// around are processes, each with another one in it in the place of the @, that leave open whether the rules are kept.
var around = []string{
	"@", "SEQ/.@", "SEQ/.SKIP/.@/.STOP", "PAR/.SKIP/.@", "PRI PAR/.@/.SKIP", "PRI PAR/.SKIP/.@", "PLACED PAR/.PROCESSOR 2/..SKIP/.PROCESSOR 1/..@",
	"SEQ k = 0 FOR 3/.@", "PAR k = k FOR k/.@", "WHILE k/.@", "IF/.FALSE/..SKIP/.k/..@", "IF k = 0 FOR 3/.k = 1/..@", "CASE k/.1, k/..@", "CASE k/.1/..SKIP/.ELSE/..@",
	"ALT/.k & SKIP/..@", "ALT/.k ? AFTER k/..SKIP/.k ? k/..@", "PRI ALT/.k ? AFTER k/..@", "ALT k = 0 FOR 3/.k ? k/..@", "k ? CASE/.tag/..SKIP/.tag; k/..@",
	"INT k:/@", "INT k, x, n:/@", "PROTOCOL k IS INT:/CHAN OF k k:/@", "VAL INT k IS 1:/@", "VAL INT n IS 1:/@", "INT k IS l:/@", "PROC k(INT k)/.SKIP/:/@",
	"PROC k()/.@/:/SKIP", "PROC k(INT k, VAL INT n)/.@/:/SKIP", "PROC k()/.PROC l()/..@/.:/.SKIP/:/k()", "PROC k()/.SEQ/..SKIP/..SEQ k = 0 FOR 3/...@/:/k()",
}

// inside returns the text of a process with the one of another in place of the @.
func inside(outer, inner string) string {
	var rows []string
	for x := range strings.SplitSeq(outer, "/") {
		before, ok := strings.CutSuffix(x, "@")
		if !ok {
			rows = append(rows, x)
			continue
		}
		for y := range strings.SplitSeq(inner, "/") {
			rows = append(rows, before+y)
		}
	}
	return strings.Join(rows, "/")
}

// P15.1: each of the rules, kept and broken, in each place in which a process can be.
func TestPlaces(t *testing.T) {
	for _, outer := range around {
		for _, c := range [][2]string{
			{"INT x IS n:/x := m", ""},
			{"INT x IS n:/m := n", "x"},
			{"INT x IS v[n]:/x := n", ""},
			{"INT x IS v[n]:/n := x", "x"},
			{"VAL INT x IS n:/m := x + n", ""},
			{"VAL INT x IS n:/c ? n", "x"},
			{"PROC p(INT u, VAL INT w)/.a := w/:/p(n, m)", ""},
			{"PROC p(INT u, VAL INT w)/.a := w/:/p(n, n)", "p"},
			{"PROC p(INT u, VAL INT w)/.a := w/:/p(a, m)", "p"},
			{"PROC p(INT u, VAL INT w)/.a := w/:/p(m, a)", "p"},
			{"n, m := m, n", ""},
			{"m, n, n := 1, 2, 3", "n"},
			{"c ? m; n", ""},
			{"c ? n; m; n", "n"},
			{"ALT/.c ? n; m/..SKIP", ""},
			{"ALT/.c ? n; n/..SKIP", "n"},
			{"c ? CASE/.a; n; m/..SKIP", ""},
			{"c ? CASE/.a; n; n/..SKIP", "n"},
			{"n := n", ""},
		} {
			checkText(t, inside(outer, c[0]), c[1])
		}
	}
}
