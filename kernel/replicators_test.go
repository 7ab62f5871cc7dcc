package kernel_test

import (
	"fmt"
	"strings"
	"testing"

	"transputer/api"
	"transputer/kernel"
)

// unrolled returns the text with @ replaced by so many numbers from base on.
func unrolled(part string, base int32, count int) string {
	s := ""
	for i := range count {
		s += strings.ReplaceAll(part, "@", fmt.Sprint(base+int32(i)))
	}
	return s
}

// P16.2: replicators with constants, with all counts and with bases at the limits of words.
func TestCounts(t *testing.T) {
	for base, n := range map[string]int32{"0": 0, "5": 5, "- 3": -3, "#7FFFFFFF": 1<<31 - 1, "#7FFFFFF8": 1<<31 - 8, "#80000000": -1 << 31, "VAL": 7} {
		for count := -2; count <= 18; count++ {
			around, number := "", fmt.Sprint(count)
			if count < 0 {
				number = fmt.Sprintf("- %d", -count)
			}
			if base == "VAL" {
				around = fmt.Sprintf("VAL INT b IS 3 + 4:|VAL INT c IS %s:|", number)
				base, number = "b", "c"
			}
			rep := " i = (" + base + ") FOR (" + number + ")"
			for _, c := range [][3]string{
				{"PAR" + rep + "|.to.host ! i", "par", "|.c1 ! INT @"},
				{"PAR" + rep + "|.SEQ|..to.host ! i|..STOP", "par", "|.seq|..c1 ! INT @|..stop"},
				{"IF" + rep + "|.i = 1|..to.host ! i", "if", "|.@ = 1|..c1 ! INT @"},
				{"ALT" + rep + "|.TRUE & SKIP|..to.host ! i", "alt", "|.1 & skip|..c1 ! INT @"},
				{"PRI ALT" + rep + "|.(i > 0) & SKIP|..STOP", "pri alt", "|.@ > 0 & skip|..stop"},
			} {
				if count < 0 || count > 16 {
					checkErrors(t, api.ErrKernel, around+c[0])
				} else {
					checkRoots(t, [][2]string{{around + c[0], c[1] + unrolled(c[2], n, count)}})
				}
			}
			want := "seq" + unrolled("|.c1 ! INT @|.stop", n, count)
			if count == 0 {
				want = "skip"
			}
			if count < 0 || count > 16 {
				e := exprOf(base, n)
				want = fmt.Sprintf("seq|.v0, v1 := %s, %s|.while v1 > 0|..seq|...c1 ! INT v0|...stop|...v0, v1 := v0 PLUS 1, v1 MINUS 1", e, exprOf(number, int32(count)))
			}
			checkRoots(t, [][2]string{{around + "SEQ" + rep + "|.SEQ|..to.host ! i|..STOP", want}})
			if base == "b" {
				base = "VAL"
			}
		}
	}
}

// exprOf returns the text of what becomes of an expression with the value n.
func exprOf(s string, n int32) string {
	if strings.HasPrefix(s, "- ") {
		return s
	}
	return fmt.Sprint(n)
}

// P16.2: base and count that are no constants: a loop of SEQ, otherwise ErrConst.
func TestNoConstants(t *testing.T) {
	const around = "INT n:|VAL INT k IS 2:|"
	for _, c := range [][3]string{{"n", "k", "v0, 2"}, {"0", "n", "0, v0"}, {"n", "n", "v0, v0"}, {"n + k", "n * n", "v0 + 2, v0 * v0"}, {"n", "17", "v0, 17"}, {"1 / 0", "2", "1 / 0, 2"}, {"k", "k / 0", "2, 2 / 0"}, {"k + k", "n", "2 + 2, v0"}, {"SIZE v", "n", ""}} {
		rep := " i = (" + c[0] + ") FOR (" + c[1] + ")"
		if c[2] == "" {
			rep, c[2] = " i = (k) FOR (n)", "2, v0"
		}
		checkErrors(t, api.ErrConst, around+"PAR"+rep+"|.SKIP", around+"IF"+rep+"|.TRUE|..SKIP", around+"ALT"+rep+"|.TRUE & SKIP|..SKIP", around+"PRI ALT"+rep+"|.TRUE & SKIP|..SKIP")
		checkRoots(t, [][2]string{
			{around + "SEQ" + rep + "|.n := i", "seq|.clear v0|.v1, v2 := " + c[2] + "|.while v2 > 0|..seq|...v0 := v1|...v1, v2 := v1 PLUS 1, v2 MINUS 1"},
			{around + "SEQ" + rep + "|.SEQ|..n := i|..INT j:|..j := i", "seq|.clear v0|.v1, v2 := " + c[2] + "|.while v2 > 0|..seq|...v0 := v1|...clear v3|...v3 := v1|...v1, v2 := v1 PLUS 1, v2 MINUS 1"},
			{around + "SEQ" + rep + "|.SEQ", "seq|.clear v0|.v1, v2 := " + c[2] + "|.while v2 > 0|..seq|...skip|...v1, v2 := v1 PLUS 1, v2 MINUS 1"},
		})
	}
	// Base and count come before the part, and the base comes before the count.
	checkErrors(t, api.ErrConst, "INT n:|PAR i = n FOR 17|.SKIP", "INT n:|PAR i = 0 FOR n|.CASE 1|..1, 1|...SKIP", "INT n:|IF i = n FOR 0|.TRUE|..SKIP", "INT n:|ALT i = n FOR - 1|.TRUE & SKIP|..SKIP")
	checkErrors(t, api.ErrKernel, "INT n:|PAR i = 0 FOR 17|.PAR j = 0 FOR n|..SKIP", "INT n:|IF i = 0 FOR - 1|.TRUE|..CASE 1|...n|....SKIP", "INT n:|ALT i = 0 FOR 17|.TRUE & SKIP|..PAR j = 0 FOR n|...SKIP")
	// A part that is not elaborated has no errors.
	made(t, "INT n:|PAR i = 0 FOR 0|.PAR j = 0 FOR n|..SKIP")
	made(t, "INT n:|SEQ i = 0 FOR 0|.CASE 1|..1, n|...SKIP")
}

// reps are replicated processes with another process inside, in which N is the name of the replicator, B its base and C its count.
var reps = []string{"SEQ N = B FOR C|.@", "PAR N = B FOR C|.@", "IF N = B FOR C|.N = 1|..@", "ALT N = B FOR C|.(N > 2) & SKIP|..@", "PRI ALT N = B FOR C|.TRUE & SKIP|..@"}

// P16.2: replicators inside each other, where the inner ones depend on the outer ones.
func TestNestedReplicators(t *testing.T) {
	for _, outer := range reps {
		for _, inner := range reps {
			src := inside(strings.NewReplacer("N", "j", "B", "3", "C", "2").Replace(outer), strings.NewReplacer("N", "i", "B", "j", "C", "(j - 2)").Replace(inner))
			src = inside(src, "to.host ! (i * 10) + j")
			p := proc(src)
			want, e := makeByRules(p)
			k, f := kernel.Make(p)
			if e != api.OK || f != api.OK || !kernel.Same(k, want) {
				t.Errorf("Make(%s) = %v, %v, not %v, %v", src, k, f, want, e)
			}
			if s := textOf(t, k); strings.Count(s, "c1 ! INT") != 3 || !strings.Contains(s, "c1 ! INT (3 * 10) + 3") || !strings.Contains(s, "c1 ! INT (4 * 10) + 4") || !strings.Contains(s, "c1 ! INT (5 * 10) + 4") {
				t.Error(src, s)
			}
		}
	}
	checkRoots(t, [][2]string{
		{"SEQ i = 0 FOR 2|.PAR j = i FOR i|..to.host ! j", "seq|.par|.par|..c1 ! INT 1"},
		{"PAR i = 1 FOR 2|.SEQ i = i FOR i|..to.host ! i", "par|.c1 ! INT 1|.seq|..c1 ! INT 2|..c1 ! INT 3"},
		{"INT n:|SEQ i = 0 FOR n|.SEQ j = i FOR 2|..to.host ! j", "seq|.clear v0|.v1, v2 := 0, v0|.while v2 > 0|..seq|...v3, v4 := v1, 2|...while v4 > 0|....seq|.....c1 ! INT v3|.....v3, v4 := v3 PLUS 1, v4 MINUS 1|...v1, v2 := v1 PLUS 1, v2 MINUS 1"},
		{"INT n:|SEQ i = 0 FOR n|.SEQ j = 5 FOR 2|..to.host ! i + j", "seq|.clear v0|.v1, v2 := 0, v0|.while v2 > 0|..seq|...c1 ! INT v1 + 5|...c1 ! INT v1 + 6|...v1, v2 := v1 PLUS 1, v2 MINUS 1"},
		{"[2]CHAN OF INT c:|INT x:|ALT i = 0 FOR 2|.c[i] ? x|..to.host ! i", "seq|.clear v0|.alt|..1 & c2 ? INT v0|...c1 ! INT 0|..1 & c3 ? INT v0|...c1 ! INT 1"},
		{"[2]INT v:|PAR i = 0 FOR 2|.INT x IS v[i]:|.SEQ j = x FOR 1|..to.host ! j", "seq|.clear v0|.par|..seq|...v1, v2 := v0[0], 1|...while v2 > 0|....seq|.....c1 ! INT v1|.....v1, v2 := v1 PLUS 1, v2 MINUS 1|..seq|...v3, v4 := v0[1], 1|...while v4 > 0|....seq|.....c1 ! INT v3|.....v3, v4 := v3 PLUS 1, v4 MINUS 1"},
	})
}
