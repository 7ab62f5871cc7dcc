package scope_test

import (
	"fmt"
	"slices"
	"strings"
	"testing"

	"transputer/api"
	"transputer/scope"
)

// checkOccurrences tells Check one name more at each call, so that each call returns the next one of the occurrences,
// which stand in their order and are ErrScope, or ErrTwice if there is a ! behind them, where the way ends.
func checkOccurrences(t *testing.T, p api.Process, occurrences string) {
	t.Helper()
	l := strings.Fields(occurrences)
	for i, x := range l {
		if name, twice := strings.CutSuffix(x, "!"); twice {
			checkCheck(t, p, l[:i], name, api.ErrTwice)
			if q, e := scope.Unique(p); e != api.ErrTwice || shown(q) != shown(api.Process{}) {
				t.Errorf("Unique(%s) = %s, %d", shown(p), shown(q), e)
			}
			checkAlike(t, p, p, false)
			return
		}
		checkCheck(t, p, l[:i], x, api.ErrScope)
	}
	checkCheck(t, p, l, "", api.OK)
	slices.Sort(l)
	checkFree(t, p, strings.Join(l, " "))
}

// P12.1: every place at which a name can be used, in the order of occurrence.
func TestUses(t *testing.T) {
	for _, c := range [][2]string{
		{"t[i], u := v[j], SIZE w", "t i u v j w"},
		{"c ? u", "c u"},
		{"c[i] ? t[j]; u", "c i t j u"},
		{"c ! v", "c v"},
		{"c[i] ! v[j]; SIZE w; x", "c i v j w x"},
		{"c[i] ? AFTER v[j]", "c i v j"},
		{"c ? AFTER SIZE v", "c v"},
		{"c[i] ? CASE/.tag; t[j]; u/..x := y/.other/..z := 1", "c i t j u x y z"},
		{"p()", "p"},
		{"p(x, v[i], SIZE w)", "p x v i w"},
		{"SEQ/.a := b/.c := d", "a b c d"},
		{"PAR/.a := b/.c := d", "a b c d"},
		{"PRI PAR/.a := b/.c := d", "a b c d"},
		{"PLACED PAR/.PROCESSOR 3/..a := b/.PROCESSOR 0/..c := d", "a b c d"},
		{"SEQ i = a[b] FOR SIZE c/.d := i", "a b c d"},
		{"PAR i = a[b] FOR SIZE c/.d := i", "a b c d"},
		{"ALT i = a[b] FOR SIZE c/.d & SKIP/..e := i", "a b c d e"},
		{"PRI ALT i = a[b] FOR SIZE c/.d[i] ? e/..f := i", "a b c d e f"},
		{"IF i = a[b] FOR SIZE c/.d = i/..e := i", "a b c d e"},
		{"IF/.a[b]/..c := d/.SIZE e/..f := g", "a b c d e f g"},
		{"ALT/.a & SKIP/..b := 1/.c[d] & SKIP/..e := 1", "a b c d e"},
		{"ALT/.a[b] & c[d] ? e[f]; g/..h := 1/.i ? j/..k := 1", "a b c d e f g h i j k"},
		{"PRI ALT/.(SIZE a) & b[c] ? AFTER d[e]/..f := 1/.g ? AFTER SIZE h/..i := 1", "a b c d e f g h i"},
		{"CASE a[b]/.c, d[e], SIZE f/..g := 1/.ELSE/..h := 1/.i/..j := 1", "a b c d e f g h i j"},
		{"CASE SIZE a/.1/..SKIP", "a"},
		{"WHILE a[b]/.c := SIZE d", "a b c d"},
		{"VAL INT x IS a[b]:/c := x", "a b c"},
		{"VAL INT x IS SIZE a:/b := x", "a b"},
		{"INT x IS a:/b := x", "a b"},
		{"INT x IS a[b]:/c := x", "a b c"},
		{"CHAN OF q x, y:/a := 1", "q a"},
		{"[4]CHAN OF q x:/a := 1", "q a"},
		{"PROTOCOL x IS INT:/a := 1", "a"},
		{"PROTOCOL x/.CASE/..tag/..other; INT/:/a := 1", "a"},
		{"PROC x(CHAN OF q y, VAL INT z, [3]CHAN OF r w)/.a := b/:/c := d", "q r a b c d"},
		{"PROC x()/.p()/:/q()", "p q"},
	} {
		checkOccurrences(t, proc(c[0]), c[1])
	}
}

// P12.1: names deep inside expressions, and in each operand of each kind of them; S comes before L.
func TestUsesInside(t *testing.T) {
	checkOccurrences(t, proc("x := ((a + b) * (c - d)) + ((- e) - (NOT f))"), "x a b c d e f")
	checkOccurrences(t, proc("x := BYTE (INT (~ (MINUS (v[(w[a]) + (SIZE b)]))))"), "x v w a b")
	checkOccurrences(t, proc("v[w[x[y]]] := a[b[c]] AFTER d[SIZE e]"), "v w x y a b c d e")
	deep := api.Expr{Kind: api.ExSize, S: "e32"}
	names := []string{"e32"}
	for n := 31; n > 0; n-- {
		s := fmt.Sprint("e", n)
		deep = api.Expr{Kind: api.ExIndex, S: s, L: []api.Expr{deep}}
		names = append([]string{s}, names...)
	}
	checkOccurrences(t, api.Process{Kind: api.PrAssign, Targets: []api.Expr{deep}, Exprs: []api.Expr{{Kind: api.ExName, S: "f"}}}, strings.Join(append(names, "f"), " "))
}

// P12.1: ErrTwice, in its place among the errors.
func TestTwice(t *testing.T) {
	for _, c := range [][2]string{
		{"INT x, x:/SKIP", "x!"},
		{"INT x, y, x, y:/a := 1", "x!"},
		{"INT x, y, y, x:/a := 1", "y!"},
		{"INT a, b, c, d, e, f, g, a:/h := 1", "a!"},
		{"[4]BYTE x, x:/a := 1", "x!"},
		{"TIMER x, y, y:/a := 1", "y!"},
		{"CHAN OF q x, x:/a := 1", "x!"},
		{"CHAN OF q q, x, q:/a := 1", "q!"},
		{"PROC p(INT x, INT x)/.SKIP/:/SKIP", "x!"},
		{"PROC p(VAL INT x, INT y, CHAN OF q x)/.a := 1/:/b := 1", "x!"},
		{"PROC p(CHAN OF q x, [2]CHAN OF r y, TIMER y)/.a := 1/:/b := 1", "y!"},
		{"PROC p(INT p)/.SKIP/:/SKIP", ""},
		{"INT x:/INT x:/SKIP", ""},
		{"PAR/.INT x:/.SKIP/.INT x:/.SKIP", ""},
		{"PROC p(INT x)/.INT x:/.x := 1/:/SKIP", ""},
		{"SEQ i = 0 FOR 2/.SEQ i = 0 FOR i/..INT i:/..SKIP", ""},
		{"PROTOCOL q/.CASE/..x; INT/..y/:/CHAN OF q x, y:/SKIP", ""},

		{"SEQ/.a := 1/.INT x, x:/.SKIP", "a x!"},
		{"SEQ/.INT x, x:/.SKIP/.a := 1", "x!"},
		{"SEQ/.INT x, x:/.SKIP/.INT y, y:/.SKIP", "x!"},
		{"INT y, y:/INT x, x:/a := 1", "y!"},
		{"INT y, y:/PROC p(INT x, INT x)/.SKIP/:/a := 1", "y!"},
		{"CHAN OF q x:/INT y, y:/SKIP", "q y!"},
		{"VAL INT x IS a:/INT y, y:/SKIP", "a y!"},
		{"INT x IS a:/INT y, y:/SKIP", "a y!"},
		{"PROTOCOL q IS INT:/INT y, y:/a := 1", "y!"},
		{"PROC p(CHAN OF q x)/.INT y, y:/.SKIP/:/SKIP", "q y!"},
		{"PROC p()/.INT x, x:/.SKIP/:/a := 1", "x!"},
		{"PROC p()/.a := 1/:/INT x, x:/SKIP", "a x!"},
		{"SEQ i = a FOR b/.INT x, x:/.c := 1", "a b x!"},
		{"IF i = a FOR b/.c/..INT x, x:/..d := 1", "a b c x!"},
		{"WHILE a/.INT x, x:/.b := 1", "a x!"},
		{"CASE a/.b/..INT x, x:/..SKIP/.c/..SKIP", "a b x!"},
		{"c ? CASE/.tag; a/..INT x, x:/..SKIP/.tag; b/..SKIP", "c a x!"},
		{"ALT/.a & b ? c/..INT x, x:/..SKIP/.d & SKIP/..SKIP", "a b c x!"},
		{"ALT/.a & b ? AFTER c/..INT x, x:/..SKIP/.d & SKIP/..SKIP", "a b c x!"},
		{"ALT/.a & SKIP/..INT x, x:/..SKIP", "a x!"},
		{"PLACED PAR/.PROCESSOR 0/..a := 1/.PROCESSOR 1/..INT x, x:/..b := 1", "a x!"},
	} {
		checkOccurrences(t, proc(c[0]), c[1])
	}
}

// P12.1: Free does not mind a name that is declared twice. Of equal names, all are in scope in the same place, and the last one hides the others.
func TestFreeTwice(t *testing.T) {
	const cases = "PROTOCOL q/.CASE/..tag/:/"
	for _, c := range [][2]string{
		{"INT x, x:/x := y", "y"},
		{"SEQ/.INT x, x, x:/.x := y/.SKIP", "y"},
		{"SEQ/.INT x, x, x:/.x := y/.z := x", "x y z"},
		{"SEQ/.PROC p(INT x, INT y, INT x)/..x := y/.:/.p(x)/.z := x", "x z"},
		{"PROC p(INT x, INT x)/.x := y/:/p(z)", "y z"},
		{cases + "PROC p(INT c, CHAN OF q c)/.c ! tag/:/SKIP", ""},
		{cases + "PROC p(CHAN OF q c, INT c)/.c ! tag/:/SKIP", "tag"},
		{cases + "PROC p(CHAN OF q c, INT c, CHAN OF q c)/.c ! tag/:/SKIP", ""},
		{cases + "PROC p(CHAN OF q c, CHAN OF q c, CHAN OF r c)/.c ! tag/:/SKIP", "r tag"},
		{cases + "CHAN OF q c, c:/c ! tag", ""},
	} {
		checkFree(t, proc(c[0]), c[1])
	}
}
