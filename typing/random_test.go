package typing_test

import (
	"slices"
	"strings"
	"testing"

	"transputer/api"
)

// random returns numbers in a fixed order without a pattern.
func random(seed uint32) func(n int) int {
	return func(n int) int {
		seed = seed*1664525 + 1013904223
		return int(seed>>9) % n
	}
}

func pick[T any](next func(int) int, l []T) T { return l[next(len(l))] }

// forms are what stands in place of $ and a letter: I, Y, L are expressions, i, y, l targets of the type INT, BYTE, BOOL;
// c, d, e channels of INT, of the protocol p and of the protocol s; t a timer, v an array, and N any name. All of them may stand as operands.
func forms(letter byte) []string {
	switch letter {
	case 'I':
		return []string{"1", "i", "j", "k", "a", "v[$I]", "($I + $I)", "($I >> $I)", "(- $I)", "(~ $I)", "(SIZE $v)", "(INT $Y)", "(INT $L)", "(INT $I)"}
	case 'Y':
		return []string{"'a'", "b", "b", "kb", "w[$I]", "(BYTE $I)", "(BYTE $L)"}
	case 'L':
		return []string{"TRUE", "f", "f", "($I < $I)", "($Y >= $Y)", "($L = $L)", "($Y <> $Y)", "($L AND $L)", "(NOT $L)", "($I AFTER $I)", "(BOOL $I)"}
	case 'i':
		return []string{"i", "j", "a", "v[$I]"}
	case 'y':
		return []string{"b", "w[$I]"}
	case 'l':
		return []string{"f", "f", "g[$I]"}
	case 'c':
		return []string{"c", "cc[$I]"}
	case 'd':
		return []string{"d", "d", "dd[$I]"}
	case 'e':
		return []string{"e"}
	case 't':
		return []string{"t"}
	case 'v':
		return []string{"v", "v", "w", "cc", "dd"}
	}
	return []string{"i", "j", "k", "a", "b", "kb", "f", "v", "c", "d", "e", "t", "p", "s", "q", "x"}
}

const letters = "IYLiylcdetvN"

// wrong are forms that are seldom right.
var wrong = []string{"u", "u[1]", "q", "p", "k", "kb", "f[1]", "v", "cc", "v[b]", "d", "t", "put"}

// leaves are processes that are not deep; those behind the first ones are wrong.
var leaves = []string{
	"SKIP", "$i := $I", "$y := $Y", "$l := $L", "$i, $y := $I, $Y", "$l, $i, $i := $L, $I, $I", "$c ? $i", "$c ! $I", "$d ? $i; $y", "$d ! $I; $Y", "$e ! put; $I", "$e ! all; $L; $Y", "$e ! end",
	"$t ? $i", "$t ? AFTER $I", "q($I, $i, v, $d)", "q($I, $i, v, $d)", "VAL INT $N IS $I:/$i := $N", "BYTE $N:/$y := $N",
	"$i, $y := $I", "$i := $I, $N", "$c ? $i; $i", "$d ? $i", "$d ? $i; $y; $N", "$d ! $I", "$d ! $I; $Y; $Y", "$e ! $N", "$e ! put", "$e ! end; $I", "$e ! all; $L", "$e ? $i", "$c ? CASE/.put; $i/..SKIP", "q($I, $i, v)", "$N()",
}

const rightLeaves = 19

// trees are processes with others in them, for each of which there is a row @.
var trees = []string{
	"SEQ/.@/.@", "SEQ/.@/.@/.@", "PAR/.@/.@", "PRI PAR/.@/.@", "SEQ $N = $I FOR $I/.@", "PAR i = $I FOR $I/.@", "WHILE $L/.@", "IF/.$L/..@/.$L/..@", "IF $N = $I FOR $I/.$L/..@",
	"ALT/.$L & SKIP/..@/.$c ? $i/..@/.$L & $t ? AFTER $I/..@", "PRI ALT/.$d ? $i; $y/..@/.$t ? AFTER $I/..@", "ALT $N = $I FOR $I/.$L & $c ? $i/..@",
	"CASE $I/.$I, $I/..@/.ELSE/..@", "CASE $Y/.ELSE/..@/.$Y/..@", "CASE $I/.$I/..@/.$I/..@", "CASE $I/.ELSE/..@/.ELSE/..@", "$e ? CASE/.put; $i/..@/.end/..@", "$e ? CASE/.all; $l; $y/..@", "$e ? CASE/.end/..@/.end/..@", "$e ? CASE/.$N/..@",
	"INT i:/@", "INT $N, $N:/@", "BYTE $N:/@", "BOOL f:/@", "[4]INT v:/@", "[5]INT $N:/@", "TIMER t:/@", "TIMER $N:/@", "CHAN OF INT c:/@", "VAL INT k IS $I:/@", "VAL BYTE $N IS $Y:/@", "INT a IS $i:/@", "BOOL $N IS $l:/@",
	"PROTOCOL p IS INT; BYTE:/@", "PROTOCOL p IS INT; BYTE:/CHAN OF p d:/@", "PROTOCOL p IS BYTE:/@", "PROTOCOL s/.CASE/..put; INT/..all; BOOL; BYTE/..end/:/@", "PROTOCOL s/.CASE/..end/..put; INT/:/@", "PROTOCOL $N IS INT:/@",
	"CHAN OF p d:/@", "[2]CHAN OF p dd:/@", "CHAN OF s e:/@", "CHAN OF $N d:/@", "CHAN OF $N $N:/@",
	"PROC q(VAL INT x, INT y, [4]INT z, CHAN OF p w)/.@/:/@", "PROC q(VAL INT k, INT i, [4]INT v, CHAN OF p d)/.@/:/@", "PROC $N(INT i, CHAN OF s e)/.@/:/@", "PROC $N(INT $N, VAL BYTE $N, CHAN OF $N d, TIMER t)/.@/:/@", "PROC x()/.@/:/@",
}

// writer writes random processes, in which, so many times in a thousand, something else stands than what would be right.
type writer struct {
	next   func(int) int
	errors int
}

func (w *writer) errs() bool { return w.next(1000) < w.errors }

// filled returns a text with something in place of all $; it is short if little depth is left.
func (w *writer) filled(s string, depth int) string {
	parts := strings.Split(s, "$")
	for i := 1; i < len(parts); i++ {
		letter, rest := parts[i][0], parts[i][1:]
		if letter == 'N' {
			parts[i] = pick(w.next, forms('N')) + rest
			continue
		}
		form := pick(w.next, forms(letter))
		switch {
		case w.errs():
			form = pick(w.next, wrong)
		case w.errs():
			form = pick(w.next, forms(letters[w.next(len(letters))]))
		case depth <= 0:
			form = forms(letter)[0]
		}
		if !strings.Contains("IYL", string(letter)) && !isElement(form) || letter == 'v' && strings.Contains(form, "[") {
			form = "u"
		}
		parts[i] = w.filled(form, depth-1) + rest
	}
	return strings.Join(parts, "")
}

// isElement tells whether a form may stand in front of brackets or on the left of an assignment.
func isElement(form string) bool { return strings.Contains("abcdefghijklmnopqrstuvwxyz", form[:1]) }

func (w *writer) rows(depth int) []string {
	form := leaves[w.next(rightLeaves)]
	if w.errs() {
		form = pick(w.next, leaves)
	}
	if depth > 1 {
		form = pick(w.next, trees)
	}
	var rows []string
	for x := range strings.SplitSeq(form, "/") {
		before, ok := strings.CutSuffix(x, "@")
		if !ok {
			rows = append(rows, w.filled(x, 3))
			continue
		}
		for _, y := range w.rows(depth - 1 - w.next(2)) {
			rows = append(rows, before+y)
		}
	}
	return rows
}

// randomEnv returns an environment in which processes may be right, unless something has been changed in it.
func (w *writer) randomEnv() []api.Spec {
	l := env("PROTOCOL p IS INT; BYTE:/PROTOCOL s/.CASE/..put; INT/..all; BOOL; BYTE/..end/:/INT i, j:/BYTE b:/BOOL f:/[4]INT v:/[9]BYTE w:/[2]BOOL g:/VAL INT k IS 1:/VAL BYTE kb IS 'a':/INT a IS i:/TIMER t:",
		"CHAN OF INT c:/[3]CHAN OF INT cc:/CHAN OF p d:/[2]CHAN OF p dd:/CHAN OF s e:/PROC q(VAL INT x, INT y, [4]INT z, CHAN OF p w)/.SKIP/:")
	for range w.next(1 + w.errors/5) {
		i := w.next(len(l))
		switch w.next(8) {
		case 0:
			l = slices.Delete(l, i, i+1)
		case 1:
			j := w.next(len(l))
			l[i], l[j] = l[j], l[i]
		case 2:
			l = slices.Insert(l, i, pick(w.next, l))
		case 3:
			l[i].Kind = pick(w.next, kinds)
		case 4:
			l[i].Type = pick(w.next, append(oddTypes(), pick(w.next, l).Type, pick(w.next, l).Type))
		case 5:
			l[i].Names = append(slices.Clone(l[i].Names), pick(w.next, forms('N')))
		case 6:
			l[i].Proto = pick(w.next, append(wrongProtocols(), l[0].Proto))
		case 7:
			l[i].Formals = append(slices.Clone(pick(w.next, l).Formals), api.Formal{Val: w.next(2) == 0, Type: pick(w.next, l).Type})[w.next(2):]
		}
	}
	return l
}

// someProcesses calls f with many processes and environments.
func someProcesses(seed uint32, n int, f func(p api.Process, l []api.Spec, next func(int) int)) {
	next := random(seed)
	for range n {
		w := &writer{next, pick(next, []int{0, 0, 2, 10, 40})}
		f(proc(strings.Join(w.rows(1+next(8)), "/")), w.randomEnv(), next)
	}
}

// P13.2: Check returns what the chapter's rules say.
func TestRules(t *testing.T) {
	outcomes := map[api.Errno]int{}
	someProcesses(1, 20000, func(p api.Process, l []api.Spec, next func(int) int) {
		want := checkByRules(p, l)
		outcomes[want]++
		checkProcess(t, p, l, want)
	})
	t.Log(outcomes)
	if outcomes[api.OK] < 3000 || outcomes[api.ErrScope] < 1000 || outcomes[api.ErrTyping] < 3000 {
		t.Error("the processes are too much of one sort:", outcomes)
	}
}

// someExprs calls f with many expressions and environments.
func someExprs(seed uint32, n int, f func(x api.Expr, l []api.Spec, next func(int) int)) {
	next := random(seed)
	for range n {
		w := &writer{next, pick(next, []int{0, 10, 40, 200})}
		s := w.filled("$"+string(pick(next, []byte(letters))), 1+next(7))
		f(value(s), w.randomEnv(), next)
	}
}

// P13.1: Of returns what the chapter's rules say.
func TestRulesOfExpressions(t *testing.T) {
	outcomes := map[api.Errno]int{}
	someExprs(2, 20000, func(x api.Expr, l []api.Spec, next func(int) int) {
		want, e := ofByRules(x, l)
		outcomes[e]++
		checkOutcome(t, x, l, want, e)
	})
	t.Log(outcomes)
	if outcomes[api.OK] < 5000 || outcomes[api.ErrScope] < 1000 || outcomes[api.ErrTyping] < 1000 {
		t.Error("the expressions are too much of one sort:", outcomes)
	}
}
