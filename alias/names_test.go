package alias_test

import (
	"strings"
	"testing"
)

// P15.1: what Reads and Writes return for every place at which a name can stand.
func TestNames(t *testing.T) {
	for _, c := range [][3]string{
		{"t[i], u := v[j], SIZE w", "i j t u v w", "t u"},
		{"c ? u", "c u", "u"},
		{"c[i] ? t[j]; u", "c i j t u", "t u"},
		{"c ! v", "c v", ""},
		{"c[i] ! v[j]; SIZE w; x", "c i j v w x", ""},
		{"c[i] ? AFTER v[j]", "c i j v", ""},
		{"c[i] ? CASE/.tag; t[j]; u/..x := y/.other/..z := 1", "c i j t u x y z", "t u x z"},
		{"p()", "", ""},
		{"p(x, v[i], SIZE w, 1 + y)", "i v w x y", "v x"},
		{"SEQ/.a := b/.c := d", "a b c d", "a c"},
		{"PRI PAR/.a := b/.c := d", "a b c d", "a c"},
		{"PLACED PAR/.PROCESSOR 3/..a := b/.PROCESSOR 0/..c := d", "a b c d", "a c"},
		{"SEQ i = a[b] FOR SIZE c/.d := i", "a b c d", "d"},
		{"ALT i = a[b] FOR SIZE c/.d[i] ? e/..f := i", "a b c d e f", "e f"},
		{"IF i = a[b] FOR SIZE c/.d = i/..e := i", "a b c d e", "e"},
		{"IF/.a[b]/..c := d/.SIZE e/..f := g", "a b c d e f g", "c f"},
		{"ALT/.a[b] & c[d] ? e[f]; g/..h := 1/.i ? j/..k := 1", "a b c d e f g h i j k", "e g h j k"},
		{"PRI ALT/.(SIZE a) & b[c] ? AFTER d[e]/..f := 1/.g & SKIP/..i := 1", "a b c d e f g i", "f i"},
		{"CASE a[b]/.c, d[e], SIZE f/..g := 1/.ELSE/..h := 1/.i/..j := 1", "a b c d e f g h i j", "g h j"},
		{"WHILE a[b]/.c := SIZE d", "a b c d", "c"},
		{"VAL INT x IS a[b]:/c := x", "a b c", "c"},
		{"VAL INT x IS SIZE a:/SKIP", "a", ""},
		{"INT x IS a:/b := x", "a b", "b"},
		{"INT x IS a:/x := b", "a b", "a"},
		{"INT x IS a[b]:/x := c", "a b c", "a"},
		{"INT x IS a[b]:/INT y IS x:/q(y)", "a b", "a"},
		{"CHAN OF q x, y:/x ! a", "a", ""},
		{"PROTOCOL x IS INT:/a := 1", "a", "a"},
		{"PROC x(CHAN OF q y, VAL INT z, [3]CHAN OF r w)/.a := z/:/c := d", "a c d", "a c"},
		{"PROC x(INT y)/.y := a/:/SKIP", "a", ""},
		{"PROC x(INT y)/.y := a/:/x(b)", "a b", "b"},
		{"PROC x(VAL INT y)/.c ! a/:/x(b)", "a b c", ""},
		{"PROC x()/.p()/:/q(x)", "", ""},
		{"PROC x()/.p(a)/:/SKIP", "a", "a"},
		{"PROC x(INT y, TIMER t)/.SKIP/:/x(a[b], c, d)", "a b c d", "a"},
		{"PROC x(INT y)/.SKIP/:/INT a:/x(a)", "", ""},
		{"PROC x(INT y)/.SKIP/:/PROC z(INT w)/.x(w)/:/z(a)", "a", "a"},
		{"INT x:/c ? x", "c", ""},
		{"SEQ/.INT x:/.x := a/.x := b", "a b x", "x"},
		{"SEQ/.x := b/.INT x:/.x := a", "a b x", "x"},
		{"SEQ/.INT x:/.x := a/.b := x", "a b x", "b"},
		{"INT n1:/n1 := n2", "n2", ""},
		{"INT n2:/n1 := n2", "n1", "n1"},
		{"SEQ/.b := a1/.a := aa/.a.b := a2/.B := a10/.b := a.a", "B a a.a a.b a1 a10 a2 aa b", "B a a.b b"},
		{"n, n := 1, 2", "n", "n"},
		{"VAL INT x IS n:/n := 1", "n", "n"},
		{"INT x, x:/y := z", "", ""},
		{"SEQ/.y := z/.PROC p(INT u, INT u)/..SKIP/.:/.SKIP", "", ""},
	} {
		checkNames(t, proc(c[0]), c[1], c[2])
	}
}

// P15.1: a tag of an output does not occur, unless its name is free anywhere in the process.
func TestTags(t *testing.T) {
	const protocol = "PROTOCOL q/.CASE/..a/..b; INT/:/CHAN OF q c:/"
	for _, c := range [][3]string{
		{protocol + "c ! a", "", ""},
		{protocol + "c ! b; a", "a", ""},
		{protocol + "c ! b; y", "y", ""},
		{protocol + "c ! a[1]", "a", ""},
		{protocol + "c ! a + y", "a y", ""},
		{protocol + "c ! SIZE a", "a", ""},
		{protocol + "c ! y", "y", ""},
		{protocol + "d ! a", "a d", ""},
		{protocol + "SEQ/.c ! a/.x := a", "a x", "x"},
		{protocol + "SEQ/.c ! a/.a := x", "a x", "a"},
		{protocol + "SEQ/.c ! a/.a()", "a", ""},
		{protocol + "SEQ/.c ! a/.CHAN OF a d:/.SKIP", "a", ""},
		{protocol + "SEQ/.c ! a/.INT a:/.a := x", "x", ""},
		{protocol + "INT a:/SEQ/.c ! a/.x := a", "x", "x"},
		{protocol + "c ? CASE/.a/..SKIP/.b; y/..SKIP", "y", "y"},
		{"INT a:/" + protocol + "c ! a", "", ""},
		{"SEQ/." + strings.ReplaceAll(protocol, "/", "/.") + "c ! a/.c ! a", "a c", ""},
		{protocol + "q(c)", "", ""},
		{protocol + "SEQ/.r(c)/.y := r", "r y", "y"},
	} {
		checkNames(t, proc(c[0]), c[1], c[2])
	}
	for _, c := range [][2]string{
		{"INT a:/INT x IS a:/" + protocol + "c ! a", ""},
		{"INT a:/INT x IS a:/" + protocol + "c ! b; a", "x"},
		{"INT a:/INT x IS a:/" + protocol + "d ! a", "x"},
		{"INT x IS a:/" + protocol + "c ! a", "x"},
		{"INT x IS d:/" + protocol + "c ! a", ""},
		{"SEQ/.INT x IS d:/." + strings.ReplaceAll(protocol, "/", "/.") + "c ! a/.a := 1", ""},
		{"SEQ/.INT a:/.INT x IS a:/." + strings.ReplaceAll(protocol, "/", "/.") + "c ! a/.a := 1", ""},
		{protocol + "INT a:/PROC p(INT u)/.c ! a/:/p(a)", ""},
		{protocol + "INT a:/PROC p(INT u)/.c ! a; a/:/p(a)", "p"},
		{protocol + "PROC p(INT u)/.c ! a/:/p(a)", "p"},
		{protocol + "PROC p(VAL INT u)/.c ! a/:/p(a)", ""},
		{protocol + "VAL INT x IS a:/c ! a", ""},
		{protocol + "a, c, a := 1, 2, 3", "a"},
	} {
		checkText(t, c[0], c[1])
	}
}
