package alias_test

import (
	"slices"
	"strings"
	"testing"
)

// writing are processes in which n is written, and only reading such in which it occurs but is not written.
var writing = []string{
	"n := 1", "y, n := 1, 2", "n[1] := 2", "n[y], y := n, 2", "c ? n", "c ? y; n", "c[y] ? n[y]", "c ? CASE/.tag/..SKIP/.tag; y; n/..SKIP",
	"ALT/.c ? n/..SKIP", "ALT/.y & SKIP/..SKIP/.y & c ? y; n[1]/..SKIP", "PRI ALT/.c ? n/..SKIP", "ALT i = 0 FOR 3/.c ? n/..SKIP",
	"q(n)", "q(1, n[y])", "q(1, 2, 3, 4, 5, 6, 7, n)", "INT q:/q(n)", "PROC r(CHAN OF q q)/.q(n)/:/SKIP",
	"PROC r(INT u)/.SKIP/:/r(n)", "PROC r(VAL INT w, [4]BYTE u)/.SKIP/:/r(y, n[1])", "PROC r()/.n := 1/:/SKIP", "PROC r()/.n := 1/:/r()", "PROC r()/.n := 1/:/PROC s()/.r()/:/s()",
	"INT a IS n:/a := 1", "INT a IS n[1]:/c ? a", "INT a IS n:/INT b IS a:/b := 1", "BYTE a IS n:/q(a)",
	"SEQ/.SKIP/.n := 1", "PAR i = 0 FOR 3/.n[i] := 1", "IF/.y/..n := 1", "ALT/.c ? y/..n := 1", "WHILE y/.n := 1", "CASE y/.ELSE/..n := 1",
	"SEQ/.INT n:/.n := 1/.n := 1",
}

var reading = []string{
	"y := n", "v[n] := 1", "y := SIZE n", "y := v[n[1]]", "y, y1 := 1, BYTE (- n)", "c ? v[n]", "n ? y", "n[1] ? y", "c[n] ? y", "c ! n", "c ! 1; n[y]", "n ! 1", "c[n] ! 1",
	"c ? AFTER n", "n ? AFTER 1", "n ? CASE/.tag/..SKIP", "c ? CASE/.tag; v[n]/..SKIP",
	"SEQ i = n FOR 3/.SKIP", "SEQ i = 0 FOR n/.SKIP", "PAR i = 0 FOR SIZE n/.SKIP", "IF i = n FOR n/.TRUE/..SKIP", "ALT i = n FOR 3/.TRUE & SKIP/..SKIP", "SEQ n = n FOR 3/.SKIP",
	"IF/.n/..SKIP", "ALT/.n & SKIP/..SKIP", "ALT/.n & c ? y/..SKIP", "ALT/.n ? y/..SKIP", "ALT/.c ? v[n]/..SKIP", "ALT/.c ? AFTER n/..SKIP", "ALT/.n & c ? AFTER 1/..SKIP", "ALT/.n ? AFTER 1/..SKIP",
	"CASE n/.1/..SKIP", "CASE y/.1, n/..SKIP", "WHILE n/.SKIP", "VAL INT y IS n:/SKIP", "VAL INT y IS SIZE n:/SKIP", "INT y IS n:/SKIP", "INT y IS v[n]:/SKIP", "VAL INT n IS n:/SKIP",
	"q(1 + n)", "q(v[n])", "q(SIZE n)", "PROC r(INT u)/.SKIP/:/r(1 + n)", "PROC r(INT u)/.SKIP/:/r(SIZE n)", "PROC r(INT u)/.SKIP/:/r(y, n)", "PROC r()/.SKIP/:/r(n)", "PROC r(VAL INT u)/.SKIP/:/r(n)",
	"PROC r()/.y := n/:/SKIP", "PROC r()/.y := n/:/r()", "SEQ/.INT n:/.n := 1/.y := n",
}

// elsewhere are processes in which n does not occur, or stands for something else.
var elsewhere = []string{
	"y := x", "INT n:/n := 1", "SEQ n = 0 FOR 3/.n := n", "PROC r(INT n)/.n := 1/:/SKIP", "PROC r(INT n)/.n := 1/:/r(y)", "VAL INT n IS 5:/y := n + 1", "INT n IS v[y]:/n := 1",
	"n()", "n(y)", "CHAN OF n d:/SKIP", "PROC n()/.SKIP/:/n()", "c ? CASE/.n/..SKIP", "PROTOCOL q/.CASE/..n/:/SKIP", "CHAN OF n n:/n ! 1",
}

// P15.1: rule 1, of a name or of an element: the S of E, wherever it occurs in the scope.
func TestElementRule(t *testing.T) {
	for _, front := range []string{"INT x IS n:/", "BYTE x IS n[1]:/", "INT x IS n[z]:/", "INT n:/INT x IS n:/", "[4]INT n:/INT m IS z:/INT x IS n[m]:/"} {
		for _, s := range slices.Concat(writing, reading) {
			checkText(t, front+s, "x")
			checkText(t, front+"SEQ/.SKIP/."+strings.ReplaceAll(s, "/", "/."), "x")
		}
	}
	for _, front := range []string{"INT x IS n:/", "INT x IS n[1]:/", "INT n:/INT x IS n:/"} {
		for _, s := range elsewhere {
			checkText(t, front+s, "")
		}
	}
	checkText(t, "INT x IS n:/INT n IS v[x]:/n := 1", "")
	checkText(t, "SEQ/.n := 1/.INT x IS n:/.x := 1/.n := 1", "")
	checkText(t, "PROC p()/.n := 1/:/SEQ/.p()/.INT x IS n:/.SKIP/.p()", "")
}

// P15.1: rule 1, of an element whose index names variables: these may be read, but not written.
func TestIndexRule(t *testing.T) {
	for _, index := range []string{"n", "n[1]", "w[n]", "SIZE n", "- n", "z + n", "BYTE n", "(z + 1) * (w[w[n]])"} {
		for _, front := range []string{"INT x IS a1[" + index + "]:/", "INT n, a1:/BOOL x IS a1[" + index + "]:/"} {
			for _, s := range writing {
				checkText(t, front+s, "x")
			}
			for _, s := range slices.Concat(reading, elsewhere) {
				checkText(t, front+s, "")
			}
			checkText(t, front+"INT y IS n:/y := 1", "x")
			checkText(t, front+"INT y IS n:/v[y] := y", "")
		}
	}
	checkText(t, "INT x IS v[1]:/n := 1", "")
	checkText(t, "INT x IS v[i + j]:/i := 1", "x")
	checkText(t, "INT x IS v[i + j]:/j := 1", "x")
	checkText(t, "INT x IS v[i + j]:/x := i + j", "")
}

// P15.1: rule 2, wherever a name in E is written in the scope.
func TestValueRule(t *testing.T) {
	for _, value := range []string{"n", "n[1]", "w[n]", "SIZE n", "- n", "z + n", "n + z", "BYTE n", "(z + 1) * (w[w[n]])", "NOT (n < z)"} {
		for _, front := range []string{"VAL INT x IS " + value + ":/", "INT n, w, z:/VAL BYTE x IS " + value + ":/"} {
			for _, s := range writing {
				checkText(t, front+s, "x")
			}
			for _, s := range slices.Concat(reading, elsewhere) {
				checkText(t, front+s, "")
			}
		}
	}
	checkText(t, "VAL INT x IS 1:/n := 1", "")
	checkText(t, "VAL INT x IS i + j:/i := 1", "x")
	checkText(t, "VAL INT x IS i + j:/j := 1", "x")
	checkText(t, "SEQ/.n := 1/.VAL INT x IS n:/.y := 1/.n := 1", "")
}

// P15.1: the base of a name is that of what it abbreviates, however many abbreviations there are.
func TestBases(t *testing.T) {
	for _, c := range [][2]string{
		{"INT a IS n:/VAL INT x IS a:/a := 1", "x"},
		{"INT a IS n:/INT b IS a:/VAL INT x IS b:/b := 1", "x"},
		{"INT a IS n:/INT b IS a:/VAL INT x IS b:/y := b", ""},
		{"VAL INT x IS n:/INT a IS n:/INT b IS a:/b := 1", "x"},
		{"VAL INT x IS n:/INT a IS n[2]:/c ? a", "x"},
		{"VAL INT x IS SIZE n:/INT a IS n[2]:/c ? a", "x"},
		{"INT x IS v[i]:/INT a IS i:/a := 1", "x"},
		{"INT a IS i:/INT x IS v[a]:/a := x", "x"},
		{"INT a IS w[i]:/INT x IS v[a]:/a := x", "x"},
		{"INT a IS w[i]:/INT x IS v[a]:/x := a", ""},
		{"INT a IS w[i]:/INT x IS v[a]:/i := a", "a"},
		{"INT a IS n:/INT b IS a:/a := 1", "b"},
		{"INT a IS n:/INT b IS a:/n := 1", "a"},
		{"INT a IS n:/INT b IS n:/SKIP", "a"},
		{"INT a IS v[0]:/INT b IS v[1]:/SKIP", "a"},
		{"INT a IS n:/INT b IS a:/b := 1", ""},
		{"INT a IS n:/INT b IS a:/SEQ/.b := b/.c ? b/.c ! b", ""},
		{"VAL INT a IS n:/VAL INT x IS a:/n := 1", "a"},
		{"VAL INT a IS 1:/VAL INT x IS a:/q(a)", "x"},
		{"VAL INT a IS m:/VAL INT x IS a:/m := 1", "a"},
		{"VAL INT a IS n:/INT x IS v[a]:/n := 1", "a"},
		{"VAL INT x IS a:/INT a IS n:/n := 1", "a"},
		{"INT n:/VAL INT x IS n:/INT n IS n:/n := 1", "x"},
		{"INT x IS x:/x := x", ""},
		{"INT x IS x:/INT x IS x:/x := x", ""},
		{"VAL INT x IS x:/x := 1", ""},
		{"VAL INT x IS x:/INT y IS x:/y := 1", ""},
		{"INT x IS v[x]:/x := 1", ""},
	} {
		checkText(t, c[0], c[1])
	}
}

// P15.1: rule 2 looks into the procedures that are called in the scope, and only those.
func TestCallsInScopes(t *testing.T) {
	const procedures = "PROC p()/.n := 1/:/PROC q(INT u)/.y1 := n/:/PROC r()/.p()/:/PROC s(VAL INT u)/.r()/:/PROC u(VAL INT n, [3]BOOL w)/.n, w := 1, 2/:/"
	for _, c := range [][2]string{
		{"p()", "x"}, {"q(y)", ""}, {"q(n)", "x"}, {"r()", "x"}, {"s(1)", "x"}, {"u(n, y)", ""}, {"u(y, n)", "x"}, {"u(y, v[n])", ""}, {"p(n)", "x"}, {"q(y, n)", ""}, {"v(n)", "x"}, {"v(n + 1)", ""},
		{"PROC p()/.SKIP/:/p()", ""}, {"PROC p()/.p()/:/SKIP", "x"}, {"SEQ/.q(y)/.SEQ/..q(z)/..s(y)", "x"},
	} {
		checkText(t, procedures+"VAL INT x IS n:/"+c[0], c[1])
		checkText(t, "INT n:/"+procedures+"VAL INT x IS 1 + n:/"+c[0], c[1])
	}
	for _, s := range []string{"p()", "q(y)", "r()", "s(1)"} {
		checkText(t, procedures+"INT x IS n:/"+s, "x")
		checkText(t, procedures+"INT x IS m:/"+s, "")
	}
}
