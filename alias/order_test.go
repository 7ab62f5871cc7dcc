package alias_test

import "testing"

// P15.1: of several broken rules the first in the order of occurrence counts, that of a process or guard before those of its parts.
func TestOrder(t *testing.T) {
	for _, c := range [][2]string{
		{"SEQ/.a, a := 1, 2/.b, b := 1, 2", "a"},
		{"SEQ/.b, b := 1, 2/.a, a := 1, 2", "b"},
		{"SEQ/.a := 1/.PAR/..b, b := 1, 2/.a, a := 1, 2", "b"},
		{"PLACED PAR/.PROCESSOR 2/..b, b := 1, 2/.PROCESSOR 1/..a, a := 1, 2", "b"},
		{"VAL INT x IS n:/SEQ/.a, a := 1, 2/.n := 1", "x"},
		{"SEQ/.a, a := 1, 2/.VAL INT x IS n:/.n := 1", "a"},
		{"INT x IS n:/SEQ/.a, a := 1, 2/.n := 1", "x"},
		{"INT x IS n:/INT y IS m:/SEQ/.m := 1/.n := 1", "x"},
		{"INT x IS n:/INT y IS m:/m := 1", "y"},
		{"INT y IS m:/VAL INT x IS n:/SEQ/.n := 1/.m := 1", "y"},
		{"VAL INT x IS n:/INT y IS n:/SEQ/.y := 1/.n := 1", "x"},
		{"INT y IS n:/VAL INT x IS n:/SEQ/.y := 1/.n := 1", "y"},
		{"ALT/.c ? a; a/..b, b := 1, 2", "a"},
		{"ALT/.c ? a/..b, b := 1, 2/.d ? e; e/..SKIP", "b"},
		{"ALT/.c ? a; b/..SKIP/.d ? e; e/..b, b := 1, 2/.d ? a; a/..SKIP", "e"},
		{"c ? CASE/.tag; a; a/..b, b := 1, 2", "a"},
		{"c ? CASE/.tag; a/..b, b := 1, 2/.other; a; a/..SKIP", "b"},
		{"IF/.a/..b, b := 1, 2/.a/..a, a := 1, 2", "b"},
		{"CASE x/.a/..b, b := 1, 2/.ELSE/..a, a := 1, 2", "b"},
		{"PROC p()/.a, a := 1, 2/:/b, b := 1, 2", "a"},
		{"PROC p()/.SKIP/:/b, b := 1, 2", "b"},
		{"PROC p(INT u)/.n, n := 1, 2/:/p(n)", "n"},
		{"PROC p(INT u)/.n := u/:/SEQ/.p(n)/.a, a := 1, 2", "p"},
		{"PROC p(INT u)/.n := u/:/SEQ/.a, a := 1, 2/.p(n)", "a"},
		{"PROC p(INT u)/.n := u/:/PROC q(INT w)/.p(n)/:/SEQ/.q(n)/.p(n)", "p"},
		{"PROC p(INT u)/.n := u/:/PROC q(INT w)/.p(m)/:/SEQ/.q(n)/.p(n)", "q"},
		{"PROC p(INT u)/.n := u/:/PROC q(INT w)/.p(m)/:/SEQ/.p(n)/.q(n)", "p"},
		{"PROC p(VAL INT u)/.n := u/:/VAL INT x IS n:/p(n)", "x"},
		{"VAL INT x IS n:/PROC p(VAL INT u)/.n := u/:/p(n)", "x"},
		{"PROC p(INT u)/.PROC q()/..a, a := 1, 2/.:/.n := 1/:/p(n)", "a"},
	} {
		checkText(t, c[0], c[1])
	}
}

// P15.1: names that are declared again stand for what is declared last, and the name that is returned is that of p.
func TestHidden(t *testing.T) {
	for _, c := range [][2]string{
		{"VAL INT x IS n:/INT n:/n := x", ""},
		{"INT n:/VAL INT x IS n:/INT x:/n := x", "x"},
		{"INT n:/VAL INT n IS n:/n := 1", ""},
		{"INT n:/INT n IS n:/n := 1", ""},
		{"INT n:/INT n IS n:/INT n IS n:/n := 1", ""},
		{"INT n:/INT n IS n:/VAL INT n IS n:/n := 1", ""},
		{"INT n:/INT n IS n:/VAL INT m IS n:/n := 1", "m"},
		{"INT a:/INT a:/a, a := 1, 2", "a"},
		{"INT a, b:/PROC a(INT a, INT b)/.a, b, a := 1, 2, 3/:/SKIP", "a"},
		{"PROC p(INT u, INT v)/.SKIP/:/PROC p()/.p(n, n)/:/p(n, n)", "p"},
		{"PROC p()/.SKIP/:/PROC p(INT u, INT v)/.p(n, n)/:/p(k, m)", ""},
		{"PROC p(INT u)/.n := 1/:/INT n:/p(n)", ""},
		{"INT n:/PROC p(INT u)/.n := 1/:/INT n:/p(n)", ""},
		{"INT n:/PROC p(INT n)/.n := 1/:/p(n)", ""},
		{"INT n:/PROC p(INT u)/.INT n:/.n := 1/:/p(n)", ""},
		{"INT n:/PROC p(INT u)/.SEQ/..INT n:/..n := 1/..n := 1/:/p(n)", "p"},
		{"SEQ/.INT n:/.n := 1/.VAL INT x IS n:/.SEQ n = 0 FOR 3/..n := 1", ""},
		{"SEQ a = 0 FOR 3/.a, a := 1, 2", "a"},
		{"VAL INT x IS a:/SEQ a = 0 FOR 3/.VAL INT x IS a:/.a := 1", "x"},

		{"INT n1:/INT n2:/VAL INT n1 IS n2:/n2 := 1", "n1"},
		{"INT n2:/INT n1:/VAL INT n3 IS n2:/n2 := 1", "n3"},
		{"INT n3, n2, n1:/n3, n2, n3 := 1, 2, 3", "n3"},
		{"INT n3, n2, n1:/n1, n2, n1 := 1, 2, 3", "n1"},
		{"INT n2:/INT n1 IS n2:/n2 := n1", "n1"},
		{"PROC n2(INT n1, INT n3)/.SKIP/:/n2(n1, n1)", "n2"},
		{"PROC p(INT n2, INT n1)/.n2, n2 := 1, 2/:/SKIP", "n2"},
		{"PROC p(INT n2, INT n1)/.n1, n1 := 1, 2/:/SKIP", "n1"},
		{"SEQ n2 = 0 FOR 3/.n2, n2 := 1, 2", "n2"},
		{"IF n2 = 0 FOR 3/.TRUE/..SEQ n1 = 0 FOR 3/...n2, n1, n2 := 1, 2, 3", "n2"},
		{"INT x:/n1, n1 := x, x", "n1"},
		{"INT x:/x, x := n1, n1", "x"},
		{"INT x:/n2, x, n2 := 1, n1, n3", "n2"},
		{"PROTOCOL n2/.CASE/..n1/..n3/:/INT n1:/n1, n1 := 1, 2", "n1"},
		{"PROTOCOL n2/.CASE/..n1/..n3/:/INT n2:/CHAN OF q n3:/n3 ? n2; n2", "n2"},
		{"INT n1:/c ? CASE/.n1; n1; n1/..SKIP", "n1"},
	} {
		checkText(t, c[0], c[1])
	}
}

// P15.1: procedures that are not called count with their bodies, in the scopes in which they are declared.
func TestUncalled(t *testing.T) {
	for _, c := range [][2]string{
		{"VAL INT x IS n:/PROC p()/.n := 1/:/SKIP", "x"},
		{"INT x IS n:/PROC p()/.m := n/:/SKIP", "x"},
		{"PROC p()/.n := 1/:/VAL INT x IS n:/SKIP", ""},
		{"PROC p()/.m := n/:/INT x IS n:/SKIP", ""},
		{"PROC p(INT u)/.PROC q()/..m := n/.:/.SKIP/:/p(n)", "p"},
		{"PROC p(VAL INT u)/.PROC q()/..m := n/.:/.SKIP/:/p(m)", "p"},
		{"PROC p(VAL INT u)/.PROC q()/..m := n/.:/.SKIP/:/p(n)", ""},
		{"PROC q()/.m := n/:/PROC p(INT u)/.SKIP/:/p(n)", ""},
		{"PROC q()/.m := n/:/PROC p(INT u)/.PROC r()/..q()/.:/.SKIP/:/p(n)", "p"},
		{"PROC p()/.n, n := 1, 2/:/SKIP", "n"},
		{"PROC p(INT u)/.n := 1/:/PROC q()/.p(n)/:/SKIP", "p"},
		{"PROC p()/.VAL INT x IS n:/.n := 1/:/SKIP", "x"},
	} {
		checkText(t, c[0], c[1])
	}
}
