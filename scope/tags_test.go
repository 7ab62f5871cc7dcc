package scope_test

import "testing"

// Protocols with the tags a and b, and with the tag d.
const (
	withAB = "PROTOCOL q/.CASE/..a; INT/..b/:/"
	withD  = "PROTOCOL q/.CASE/..d/:/"
)

// P12.1: the first expression of an output is not used if it is the tag of an output, and is used otherwise.
func TestTags(t *testing.T) {
	for _, c := range [][2]string{
		{withAB + "CHAN OF q c:/c ! a", ""},
		{withAB + "CHAN OF q c:/c ! b", ""},
		{withAB + "CHAN OF q c:/c ! (a)", ""},
		{withAB + "CHAN OF q c:/c ! a; x", "x"},
		{withAB + "CHAN OF q c:/c ! a; a; b", "a b"},
		{withAB + "CHAN OF q c:/c ! 1; a", "a"},
		{withAB + "CHAN OF q c, e:/PAR/.c ! a/.e ! b", ""},
		{withAB + "CHAN OF q c:/c ! x", "x"},
		{withAB + "CHAN OF q c:/c ! q", ""},
		{withAB + "CHAN OF q c:/c ! A", "A"},
		{withAB + "CHAN OF q c:/c ! ab", "ab"},
		{withAB + "CHAN OF q c:/c ! x; a", "a x"},

		{withAB + "CHAN OF q c:/c ! a[1]", "a"},
		{withAB + "CHAN OF q c:/c ! SIZE a", "a"},
		{withAB + "CHAN OF q c:/c ! a + 1", "a"},
		{withAB + "CHAN OF q c:/c ! - a", "a"},
		{withAB + "CHAN OF q c:/c ! INT a", "a"},

		{withAB + "[3]CHAN OF q c:/c[i] ! a", "i"},
		{withAB + "[3]CHAN OF q c:/c[a] ! a", "a"},
		{withAB + "[3]CHAN OF q c:/c ! a", ""},
		{withAB + "CHAN OF q c:/c[0] ! a", ""},
		{withAB + "PROC p(CHAN OF q c)/.c ! a/:/SKIP", ""},
		{withAB + "PROC p([3]CHAN OF q c, INT x)/.c[x] ! a; b/:/SKIP", "b"},
		{withAB + "PROC p(CHAN OF q c)/.SKIP/:/c ! a", "a c"},
		{withAB + "SEQ/.CHAN OF q c:/.c ! a/.c ! a", "a c"},

		{"c ! a", "a c"},
		{withAB + "c ! a", "a c"},
		{"CHAN OF q c:/c ! a", "a q"},
		{"CHAN OF q c:/" + withAB + "c ! a", "a q"},
		{"PROTOCOL q IS INT:/CHAN OF q c:/c ! a", "a"},
		{withAB + "CHAN OF INT c:/c ! a", "a"},
		{withAB + "TIMER c:/c ! a", "a"},
		{withAB + "INT c:/c ! a", "a"},
		{withAB + "q ! a", "a"},
		{withAB + "CHAN OF q e:/INT c IS e:/c ! a", "a"},
		{withAB + "CHAN OF q c:/INT c IS c:/c ! a", "a"},
		{withAB + "CHAN OF q c:/VAL INT c IS c:/c ! a", "a"},
		{withAB + "CHAN OF q c:/SEQ c = 0 FOR 2/.c ! a", "a"},
		{withAB + "CHAN OF q c:/PROC c()/.SKIP/:/c ! a", "a"},
		{withAB + "CHAN OF q c:/PROC p(INT c)/.c ! a/:/c ! a", "a"},
		{withAB + "CHAN OF q c:/CHAN OF c e:/e ! a", "a"},
		{withAB + "INT c:/CHAN OF q c:/c ! a", ""},

		{withAB + "CHAN OF q q:/q ! a", ""},
		{withAB + "CHAN OF q q:/CHAN OF q c:/c ! a", "a"},
		{withAB + "INT q:/CHAN OF q c:/c ! a", "a"},
		{withAB + "PROTOCOL q IS INT:/CHAN OF q c:/c ! a", "a"},
		{withAB + withD + "CHAN OF q c:/c ! a", "a"},
		{withAB + withD + "CHAN OF q c:/c ! d", ""},
		{withAB + "CHAN OF q c:/INT q:/c ! a", ""},
		{withAB + "CHAN OF q c:/PROTOCOL q IS INT:/c ! a", ""},
		{withAB + "CHAN OF q c:/" + withD + "c ! a", ""},
		{withAB + "CHAN OF q c:/" + withD + "c ! d", "d"},
		{withAB + "CHAN OF q c:/" + withD + "CHAN OF q e:/PAR/.c ! a/.e ! d/.c ! d/.e ! a", "a d"},
		{withAB + "PROC p(CHAN OF q c, INT q)/.c ! a/:/SKIP", ""},
		{withAB + "PROC p(CHAN OF q q, CHAN OF q c)/.c ! a/:/SKIP", ""},
		{withAB + "PROC p(CHAN OF q c)/.INT q:/.c ! a/:/SKIP", ""},
		{withAB + "PROC q(CHAN OF q c)/.c ! a/:/SKIP", ""},
		{withAB + "PROC q(CHAN OF q c)/.CHAN OF q e:/.e ! a/:/CHAN OF q e:/e ! b", "b"},
		{"SEQ/." + "PROTOCOL q/..CASE/...a/.:/.SKIP/.CHAN OF q c:/.c ! a", "a q"},
	} {
		checkFree(t, proc(c[0]), c[1])
	}
}

// P12.1: tags stand in no other places, and the tags of inputs, of guards and of variants are not used.
func TestNoTags(t *testing.T) {
	for _, c := range [][2]string{
		{withAB + "CHAN OF q c:/c ? a", "a"},
		{withAB + "CHAN OF q c:/c ? a; b", "a b"},
		{withAB + "CHAN OF q c:/c ? AFTER a", "a"},
		{withAB + "CHAN OF q c:/c := a", "a"},
		{withAB + "CHAN OF q c:/c(a)", "a"},
		{withAB + "CHAN OF q c:/ALT/.c ? a/..SKIP", "a"},
		{withAB + "CHAN OF q c:/CASE a/.b/..SKIP", "a b"},
		{withAB + "CHAN OF q c:/c ? CASE/.a; x/..SKIP/.b/..SKIP", "x"},
		{withAB + "CHAN OF q c:/c ? CASE/.x/..SKIP", ""},
		{withAB + "CHAN OF q c:/c ? CASE/.a; a; b/..SKIP", "a b"},
		{withAB + "SKIP", ""},
		{"c ? CASE/.a/..SKIP", "c"},
	} {
		checkFree(t, proc(c[0]), c[1])
	}
}

// P12.1: a tag keeps its name, also if that is the one of a variable; a variable in its place does not.
func TestNewTags(t *testing.T) {
	for _, c := range [][2]string{
		{withAB + "INT a:/CHAN OF q c:/c ! a; a", "PROTOCOL n1/.CASE/..a; INT/..b/:/INT n2:/CHAN OF n1 n3:/n3 ! a; n2"},
		{withAB + "INT x:/CHAN OF q c:/c ! x; x", "PROTOCOL n1/.CASE/..a; INT/..b/:/INT n2:/CHAN OF n1 n3:/n3 ! n2; n2"},
		{withAB + "CHAN OF q a:/a ! a; b", "PROTOCOL n1/.CASE/..a; INT/..b/:/CHAN OF n1 n2:/n2 ! a; b"},
		{withAB + "CHAN OF q c:/" + withD + "INT a, d:/SEQ/.c ! a/.c ! d/.CHAN OF q c:/.SEQ/..c ! a/..c ! d", "PROTOCOL n1/.CASE/..a; INT/..b/:/CHAN OF n1 n2:/PROTOCOL n3/.CASE/..d/:/INT n4, n5:/SEQ/.n2 ! a/.n2 ! n5/.CHAN OF n3 n6:/.SEQ/..n6 ! n4/..n6 ! d"},
		{withAB + "PROC a(CHAN OF q b, INT x)/.SEQ/..b ! b/..b ! a; x/..a(b)/:/CHAN OF q b:/a(b, b)", "PROTOCOL n1/.CASE/..a; INT/..b/:/PROC n2(CHAN OF n1 n3, INT n4)/.SEQ/..n3 ! b/..n3 ! a; n4/..a(n3)/:/CHAN OF n1 n5:/n2(n5, n5)"},
		{withAB + "INT a:/CHAN OF q c:/c ? CASE/.a; a/..SKIP", "PROTOCOL n1/.CASE/..a; INT/..b/:/INT n2:/CHAN OF n1 n3:/n3 ? CASE/.a; n2/..SKIP"},
		{"INT a:/c ! a; a", "INT n1:/c ! n1; n1"},
		{"PROTOCOL q IS INT:/INT a:/CHAN OF q c:/c ! a", "PROTOCOL n1 IS INT:/INT n2:/CHAN OF n1 n3:/n3 ! n2"},
	} {
		checkNew(t, c[0], c[1])
	}
}

// P12.1: Check does not mind tags either, and their channels are used before them.
func TestCheckTags(t *testing.T) {
	checkOccurrences(t, proc(withAB+"[2]CHAN OF q c:/SEQ/.c[i] ! a; x/.c[j] ! y; a"), "i x j y a")
	checkOccurrences(t, proc(withAB+"[2]CHAN OF r c:/SEQ/.c[i] ! a; x/.c[j] ! y; b"), "r i a x j y b")
	checkOccurrences(t, proc(withAB+"CHAN OF q c:/c ? CASE/.x; y/..c ! a/.z/..c ! u"), "y u")
}
