package alias_test

import (
	"strings"
	"testing"
)

// P15.1: rule 4, with the S of the first target that repeats one before it, in each place where there are targets.
func TestTargets(t *testing.T) {
	for _, c := range [][2]string{
		{"a", ""},
		{"a, b", ""},
		{"a, a", "a"},
		{"a, b, a", "a"},
		{"a, b, b, a", "b"},
		{"a, b, a, b", "a"},
		{"b, b, a, a", "b"},
		{"v[0], v[1]", "v"},
		{"v[0], v", "v"},
		{"v, b, v[0]", "v"},
		{"v[0], w[0]", ""},
		{"v[a], a", ""},
		{"a, v[a], b", ""},
		{"v[v[0]], w[v[0]]", ""},
		{"v[w[0]], w[v[0]], v[w[0]]", "v"},
		{"a, b, d, e, f, g, h, i", ""},
		{"a, b, d, e, f, g, h, a", "a"},
		{"a, b, d, e, f, g, h, h", "h"},
		{"a, A, aa, a.a, a1", ""},
		{"n2, n1, n2", "n2"},
	} {
		inputs := strings.ReplaceAll(c[0], ",", ";")
		for _, s := range []string{
			c[0] + " := 1, 2", "c ? " + inputs, "c[a] ? " + inputs, "c ? CASE/.tag; " + inputs + "/..SKIP", "c ? CASE/.tag/..SKIP/.other; " + inputs + "/..SKIP",
			"ALT/.c ? " + inputs + "/..SKIP", "ALT/.c ? AFTER 1/..SKIP/.a & c ? " + inputs + "/..SKIP", "PRI ALT/.c ? " + inputs + "/..SKIP", "ALT i1 = 0 FOR 3/.c ? " + inputs + "/..SKIP", "PRI ALT i1 = 0 FOR 3/.TRUE & c ? " + inputs + "/..SKIP",
		} {
			checkText(t, s, c[1])
			checkText(t, "INT a, b, v:/"+s, c[1])
			checkText(t, "INT n2, n1:/INT v, b, a:/"+s, c[1])
			checkText(t, "PROC p(INT a, INT b, [4]INT v, INT n2)/."+strings.ReplaceAll(s, "/", "/.")+"/:/SKIP", c[1])
		}
	}
}

// P15.1: only targets are asked to be different.
func TestNoTargets(t *testing.T) {
	for _, s := range []string{
		"a := a", "a, b := a, a", "a, b := b, a", "c ? c", "c[a] ? a; c", "c ! a; a", "c ! c", "c ? AFTER c", "ALT/.a & a ? a/..a := a", "SEQ/.a := 1/.a := 1", "PAR/.a := 1/.a := 1",
		"CASE a/.a, a/..SKIP/.a/..SKIP", "ALT/.c ? a/..SKIP/.c ? a/..SKIP", "c ? CASE/.a; a/..SKIP/.a; b/..SKIP", "ALT/.c ? a/..c ? a", "q(a, a)", "SEQ a = a FOR a/.SKIP", "INT a:/SKIP", "CHAN OF a a, b:/SKIP",
	} {
		checkText(t, s, "")
	}
}

// P15.1: the targets' variables are the bases of their S, and the name is that of the target.
func TestAbbreviatedTargets(t *testing.T) {
	checkText(t, "INT x IS n:/x, x := 1, 2", "x")
	checkText(t, "INT x IS n:/x, m := 1, 2", "")
	checkText(t, "INT x IS n:/INT y IS x:/y, m, y := 1, 2, 3", "y")
	checkText(t, "INT x IS v[1]:/INT y IS w[1]:/x, y := 1, 2", "")
	checkText(t, "INT x IS v[1]:/INT y IS w[1]:/c ? y; x; y", "y")
}
