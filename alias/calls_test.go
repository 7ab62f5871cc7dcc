package alias_test

import (
	"fmt"
	"slices"
	"strings"
	"testing"
)

// P15.1: rule 3, what is asked of the actuals alone: variable actuals are different, and no value actual names one of them.
func TestActuals(t *testing.T) {
	for _, c := range [][2]string{
		// variable actuals
		{"INT a, INT b:n, m", ""},
		{"INT a, INT b:n, n", "p"},
		{"INT a, INT b:v[0], v[1]", "p"},
		{"INT a, INT b:v, v[1]", "p"},
		{"INT a, INT b:v[1], v", "p"},
		{"INT a, INT b:v[n], n", ""},
		{"INT a, INT b:n, v[n]", ""},
		{"INT a, INT b:v[n], w[n]", ""},
		{"INT a, INT b:v[v[0]], w[v[1]]", ""},
		{"INT a, INT b:n, m, n", ""},
		{"INT a, INT b, INT d:n, m, n", "p"},
		{"INT a, INT b, INT d:m, n, n", "p"},
		{"INT a, INT b, INT d:n, n, m", "p"},
		{"INT a, INT b, INT d:n, m, k", ""},
		{"INT a, INT b, INT d:n, n", "p"},
		{"INT a, INT b, INT d:n", ""},
		{"INT a:n, n", ""},
		{"INT a:n, n, n + 1, v[n]", ""},
		{":n, n", ""},
		{"INT a, INT b:n + 1, n", ""},
		{"INT a, INT b:SIZE n, n", ""},
		{"INT a, INT b:n, 1 + n", ""},
		{"INT a, INT b:1, 1", ""},
		{"INT a, INT b, INT c, INT d, INT e, INT f, INT g, INT h:k, l, m, n, o, q, r, n", "p"},
		{"INT a, INT b, INT c, INT d, INT e, INT f, INT g, INT h:k, l, m, n, o, q, r, s", ""},
		// values
		{"INT a, VAL INT b:n, n", "p"},
		{"INT a, VAL INT b:n, m", ""},
		{"INT a, VAL INT b:n, n + 1", "p"},
		{"INT a, VAL INT b:n, m + (SIZE n)", "p"},
		{"INT a, VAL INT b:n, v[n]", "p"},
		{"INT a, VAL INT b:n, v[w[m + n]]", "p"},
		{"INT a, VAL INT b:n, BYTE (- n[1])", "p"},
		{"INT a, VAL INT b:v[0], v[1]", "p"},
		{"INT a, VAL INT b:v[n], n", ""},
		{"INT a, VAL INT b:v[n], v[m]", "p"},
		{"INT a, VAL INT b:v[n], m", ""},
		{"INT a, VAL INT b:1 + n, n", ""},
		{"VAL INT a, INT b:n, n", "p"},
		{"VAL INT a, INT b:m + n, n", "p"},
		{"VAL INT a, INT b:v[n], v", "p"},
		{"VAL INT a, INT b:n, v[n]", ""},
		{"VAL INT a, VAL INT b:n, n", ""},
		{"VAL INT a, VAL INT b:n, n + 1, n", ""},
		{"VAL INT a, VAL INT b:n, n[1]", ""},
		{"INT a, VAL INT b:n, 1, n", ""},
		{"INT a, VAL INT b, VAL INT d:n, 1, n", "p"},
		{"VAL INT d, INT a, VAL INT b, INT e:1, n, 2, m", ""},
		{"VAL INT d, INT a, VAL INT b, INT e:m, n, 2, m", "p"},
		{"VAL INT d, INT a, VAL INT b, INT e:1, n, n, m", "p"},
	} {
		formals, exprs, _ := strings.Cut(c[0], ":")
		checkText(t, fmt.Sprintf("PROC p(%s)/.SKIP/:/p(%s)", formals, exprs), c[1])
		checkText(t, fmt.Sprintf("INT n, m, p:/PROC p(%s)/.SKIP/:/SEQ/.SKIP/.INT k, v:/.p(%s)", formals, exprs), c[1])
		checkText(t, fmt.Sprintf("PROC q(%s)/.SKIP/:/p(%s)", formals, exprs), "")
		checkText(t, fmt.Sprintf("PROC p(%s)/.SKIP/:/INT p:/p(%s)", formals, exprs), "")
		checkText(t, fmt.Sprintf("PROC p(%s)/.SKIP/:/PROC p()/.SKIP/:/p(%s)", formals, exprs), "")
	}
}

// P15.1: rule 3 holds for formals of all types, and calls write variables of those that have values only.
func TestFormals(t *testing.T) {
	for typ, changes := range map[string]bool{
		"INT": true, "BYTE": true, "BOOL": true, "[4]INT": true, "[4]BYTE": true, "[64]BOOL": true,
		"CHAN OF INT": false, "CHAN OF BYTE": false, "CHAN OF BOOL": false, "CHAN OF q": false, "CHAN OF n": false, "[2]CHAN OF INT": false, "[2]CHAN OF q": false, "TIMER": false,
	} {
		front := fmt.Sprintf("PROC p(%s a, %s b, VAL INT d)/.SKIP/:/", typ, typ)
		checkText(t, front+"p(n, n)", "p")
		checkText(t, front+"p(n[0], n[1])", "p")
		checkText(t, front+"p(n, m)", "")
		checkText(t, front+"p(n, m, m)", "p")
		checkText(t, front+"p(n, m, k)", "")
		checkText(t, fmt.Sprintf("PROC p(%s a)/.c ! n/:/p(n)", typ), "p")
		checkText(t, fmt.Sprintf("PROC p(%s a)/.c ! a/:/p(n)", typ), "")
		checkText(t, fmt.Sprintf("PROC p(%s a)/.n ? b/:/p(n)", typ), "p")
		checkText(t, fmt.Sprintf("PROC p(%s a)/.b ? n/:/p(n)", typ), "p")
		want, writes := "", ""
		if changes {
			want, writes = "x", "m n"
		}
		checkText(t, front+"VAL INT x IS n:/p(n, m)", want)
		checkText(t, front+"VAL INT x IS n:/p(n[1], m)", want)
		checkText(t, front+"VAL INT x IS n:/p(m, n)", want)
		checkText(t, front+"VAL INT x IS n:/p(m, k, n)", "")
		checkText(t, front+"VAL INT x IS n:/p(m, 1 + n, n)", "")
		checkText(t, front+"VAL INT x IS n:/p(m, k, 1, n)", "")
		checkNames(t, proc(front+"p(n, m)"), "m n", writes)
		checkText(t, fmt.Sprintf("PROC p(%s a)/.SKIP/:/PROC r(VAL INT u)/.p(n)/:/r(n)", typ), map[bool]string{true: "r"}[changes])
	}
	for _, typ := range []string{"INT", "BYTE", "BOOL"} {
		checkText(t, fmt.Sprintf("PROC p(VAL %s a)/.SKIP/:/VAL INT x IS n:/p(n)", typ), "")
		checkText(t, fmt.Sprintf("PROC p(VAL %s a, INT b)/.SKIP/:/p(n, n)", typ), "p")
		checkNames(t, proc(fmt.Sprintf("PROC p(VAL %s a)/.SKIP/:/p(n)", typ)), "n", "")
	}
}

// P15.1: rule 3, no variable actual occurs in the body of the procedure, however it comes there.
func TestBodies(t *testing.T) {
	for _, body := range slices.Concat(writing, reading) {
		s := "PROC p(INT u)/." + strings.ReplaceAll(body, "/", "/.") + "/:/"
		checkText(t, s+"p(n)", "p")
		checkText(t, s+"p(n[0])", "p")
		checkText(t, s+"p(m)", "")
		checkText(t, s+"p(m[n])", "")
		checkText(t, s+"p(1 + n)", "")
		checkText(t, "INT n:/"+s+"SEQ/.SKIP/.p(n)", "p")
		checkText(t, "INT n:/"+s+"INT n:/SEQ/.SKIP/.p(n)", "")
		checkText(t, "INT n:/"+s+"PROC r()/.p(z)/:/PROC t(INT z)/.r()/:/t(n)", "t")
		checkText(t, "INT n:/"+s+"PROC r()/.p(z)/:/PROC t(INT z)/.r()/:/t(m)", "")
		checkText(t, "INT z:/"+s+"PROC r()/.p(z)/:/PROC t(INT y)/.r()/:/t(z)", "t")
		checkText(t, "PROC p(INT u)/.SEQ/..SKIP/.."+strings.ReplaceAll(body, "/", "/..")+"/:/p(n)", "p")
	}
	for _, body := range elsewhere {
		checkText(t, "PROC p(INT u)/."+strings.ReplaceAll(body, "/", "/.")+"/:/p(n)", "")
	}
}

// P15.1: rule 3, no value actual names what the body writes.
func TestWrittenInBodies(t *testing.T) {
	values := []string{"n", "n + 1", "k[n]", "SIZE n", "n[1]", "BYTE (m + (- n))"}
	for _, body := range writing {
		s := "PROC p(VAL INT u)/." + strings.ReplaceAll(body, "/", "/.") + "/:/"
		for _, value := range values {
			checkText(t, s+"p("+value+")", "p")
			checkText(t, "INT n, m, k:/"+s+"p("+value+")", "p")
			checkText(t, s+"PROC r(VAL INT n, VAL INT m)/.p(z)/:/r(1, "+value+")", "r")
		}
		checkText(t, s+"p(m)", "")
		checkText(t, s+"p(m, n)", "")
		checkText(t, "INT n:/"+s+"INT n:/p(n + n)", "")
	}
	for _, body := range slices.Concat(reading, elsewhere) {
		for _, value := range values {
			checkText(t, "PROC p(VAL INT u)/."+strings.ReplaceAll(body, "/", "/.")+"/:/p("+value+")", "")
		}
	}
}

// P15.1: rule 3 through abbreviations: the base of what occurs in the body, and of what is an actual.
func TestAbbreviationsInCalls(t *testing.T) {
	for _, c := range [][2]string{
		{"INT x IS n:/PROC p(INT u)/.u := x/:/p(x)", "p"},
		{"INT x IS n:/PROC p(INT u)/.u := x/:/p(n)", "x"},
		{"INT x IS n:/PROC p(INT u)/.u := 1/:/p(x)", ""},
		{"INT x IS n:/PROC p(INT u, INT w)/.u := 1/:/p(x, x)", "p"},
		{"INT x IS n:/PROC p(INT u, VAL INT w)/.u := 1/:/p(x, x)", "p"},
		{"INT x IS n:/PROC p(VAL INT w)/.x := 1/:/p(x)", "p"},
		{"INT x IS n:/INT y IS x:/PROC p(VAL INT w)/.y := 1/:/p(y)", "p"},
		{"INT x IS n:/INT y IS x:/PROC p(VAL INT w)/.y := 1/:/p(x)", "y"},
		{"PROC p(INT u)/.INT x IS n:/.x := u/:/p(n)", "p"},
		{"PROC p(INT u)/.INT x IS n:/.INT y IS x:/.y := u/:/p(n)", "p"},
		{"PROC p(INT u)/.INT x IS u:/.INT y IS x:/.y := n/:/p(m)", ""},
		{"PROC p(INT u)/.INT x IS n[u]:/.u := 1/:/p(m)", "x"},
		{"PROC p(VAL INT u)/.INT x IS n:/.x := u/:/p(n)", "p"},
		{"PROC p(VAL INT u)/.INT x IS n:/.INT y IS x:/.q(y)/:/p(n)", "p"},
		{"PROC p(VAL INT u)/.VAL INT x IS n:/.m := x/:/p(n)", ""},
		{"PROC p(INT u)/.u := n/:/INT x IS n:/p(x)", "x"},
		{"PROC p(INT u)/.u := n/:/INT x IS m:/p(x)", ""},
		{"PROC p(INT u)/.u := n/:/VAL INT x IS n:/p(x)", ""},
		{"PROC p(INT u)/.n := u/:/VAL INT x IS n:/p(x)", "x"},
		{"VAL INT x IS n:/PROC p(INT u)/.u := 1/:/p(x)", ""},
	} {
		checkText(t, c[0], c[1])
	}
}
