package scope_test

import (
	"slices"
	"strings"
	"testing"

	"transputer/api"
	"transputer/scope"
	"transputer/syntax"
)

// leaves are rows of processes that are not deep. In place of $ and a letter behind it there is the name with this letter or another one.
var leaves = []string{
	"SKIP", "$x := $a", "$x, $x[$a] := $n + $x[$c], SIZE $x", "$c ? $x", "$c[$x] ? $x; $x[SIZE $x]", "$c ? AFTER $x[$x]", "$x($c, $x[$a])", "$x()",
	"$c ! $a", "$c ! $a", "$c ! $a", "SEQ/.$c ! $a/.$c ! $a", "SEQ/.$c ! $a/.$c ! $n", "$c ! $a; $a", "$c[$x] ! $a; $n", "$c ! $a[$x]; $a", "$c ! 1; $a",
}

// trees are rows of processes with others in them, for each of which there is a row @. Tags of one protocol must differ: u is no other name.
var trees = []string{
	"SEQ/.@/.@", "SEQ/.@/.@/.@", "PAR/.@/.@", "PRI PAR/.@/.@", "SEQ $x = $x FOR $n/.@", "PAR $c = $x[$c] FOR SIZE $x/.@",
	"WHILE $x/.@", "IF/.$x/..@/.$n/..@", "IF $x = $x FOR $n/.$x = $n/..@", "CASE $x/.$x, $n/..@/.ELSE/..@",
	"ALT/.$x & SKIP/..@/.$c ? $x/..@/.$x & $c ? AFTER $x/..@", "PRI ALT $x = $x FOR $c/.$x & $c[$x] ? $x; $a/..@", "$c ? CASE/.$a; $x/..@/.$n/..@",
	"INT $a:/@", "[3]INT $x, $n:/@", "VAL INT $x IS $x + $a:/@", "INT $x IS $x[$c]:/@", "TIMER $c:/@",
	"CHAN OF $q $c:/@", "CHAN OF $q $c:/@", "[2]CHAN OF $q $c, $x:/@", "CHAN OF INT $c:/@",
	"PROTOCOL $q IS INT:/@", "PROTOCOL $q/.CASE/..$a; INT/..u/:/@", "PROTOCOL $q/.CASE/..$n/..u/:/@", "PROTOCOL $q/.CASE/..u/..$a/:/@",
	"PROTOCOL $q/.CASE/..u/..$a/:/CHAN OF $q $c:/@", "PROTOCOL $q/.CASE/..$a/:/CHAN OF $q $c:/SEQ/.@/.@", "PROTOCOL $q/.CASE/..$a/:/CHAN OF $q $c:/PROTOCOL $q/.CASE/..$n/..u/:/SEQ/.@/.@", "PROTOCOL $q/.CASE/..$a/:/PROC $x(CHAN OF $q $c, VAL INT $x)/.@/:/@",
	"PROC $x()/.@/:/@", "PROC $q(VAL INT $x)/.@/:/@", "PROC $x(CHAN OF $q $c, INT $a)/.@/:/@", "PROC $c(INT $q, [2]CHAN OF $q $c)/.@/:/@",
}

// random returns numbers in a fixed order without a pattern.
func random(seed uint32) func(n int) int {
	return func(n int) int {
		seed = seed*1664525 + 1013904223
		return int(seed>>9) % n
	}
}

func pick[T any](next func(int) int, l []T) T { return l[next(len(l))] }

// anyRows returns rows of a process that goes no deeper than so many processes, and which has few different names.
func anyRows(next func(int) int, depth int) []string {
	form := pick(next, leaves)
	if depth > 1 {
		form = pick(next, trees)
	}
	var rows []string
	for x := range strings.SplitSeq(form, "/") {
		if before, ok := strings.CutSuffix(x, "@"); ok {
			for _, y := range anyRows(next, depth-1-next(2)) {
				rows = append(rows, before+y)
			}
			continue
		}
		rows = append(rows, named(next, x))
	}
	return rows
}

// named returns a row with names in the places of all $.
func named(next func(int) int, row string) string {
	parts := strings.Split(row, "$")
	for i := 1; i < len(parts); i++ {
		first := parts[i][:1]
		if first == "n" {
			first = "n1"
		}
		parts[i] = pick(next, []string{first, first, first, first, first, first, first, "c", "q", "a", "x", "n1", "n3"}) + parts[i][1:]
	}
	return strings.Join(parts, "")
}

// someProcesses calls f with many processes, some of which have names that are declared twice.
func someProcesses(seed uint32, f func(p api.Process, next func(int) int)) {
	next := random(seed)
	for range 4000 {
		f(proc(strings.Join(anyRows(next, 1+next(9)), "/")), next)
	}
}

// P12.1: all functions return what the chapter's rules say.
func TestRules(t *testing.T) {
	outcomes := map[api.Errno]int{}
	tags := 0
	var before api.Process
	someProcesses(1, func(p api.Process, next func(int) int) {
		r := readerOf(&p)
		free := freeByRules(r)
		checkFree(t, p, strings.Join(free, " "))
		for range 4 {
			names := slices.DeleteFunc(append(slices.Clone(free), "u", "v"), func(string) bool { return next(8) == 0 })
			want, e := checkByRules(r, names)
			checkCheck(t, p, names, want, e)
			outcomes[e]++
		}
		want, e := uniqueByRules(p)
		if q, f := scope.Unique(p); f != e || !syntax.Same(q, want) {
			t.Errorf("Unique(%s) = %s, %d, not %s, %d", shown(p), shown(q), f, shown(want), e)
		}
		checkAlike(t, p, want, e == api.OK)
		other, f := uniqueByRules(before)
		checkAlike(t, p, before, e == api.OK && f == api.OK && syntax.Same(want, other))
		before, tags = p, tags+r.sent
	})
	if tags < 200 || outcomes[api.OK] < 1000 || outcomes[api.ErrScope] < 1000 || outcomes[api.ErrTwice] < 1000 {
		t.Error("the processes are too much of one sort:", tags, outcomes)
	}
}

// P12.2: Check never returns ErrScope if the free names are among the names, and an error if one of them is not.
func TestFreeNames(t *testing.T) {
	someProcesses(2, func(p api.Process, next func(int) int) {
		free, e := scope.Free(p)
		if e != api.OK {
			t.Fatalf("Free(%s): %d", shown(p), e)
		}
		if name, e := scope.Check(p, append([]string{"x", "y"}, free...)); e != api.OK && e != api.ErrTwice || (name == "") != (e == api.OK) {
			t.Errorf("Check(%s, %q) = %q, %d", shown(p), free, name, e)
		}
		for i := range free {
			names := slices.Delete(slices.Clone(free), i, i+1)
			if name, e := scope.Check(p, names); name == "" || e != api.ErrScope && e != api.ErrTwice || e == api.ErrScope && name != free[i] {
				t.Errorf("Check(%s, %q) = %q, %d", shown(p), names, name, e)
			}
		}
	})
}

// declaredNames returns the names of all declarations in p.
func declaredNames(p *api.Process) (l []string) {
	for _, m := range readerOf(p).mentions {
		if m.declares {
			l = append(l, *m.at)
		}
	}
	return l
}

// P12.3: the new names.
func TestNewNames(t *testing.T) {
	someProcesses(3, func(p api.Process, next func(int) int) {
		q, e := scope.Unique(p)
		if e != api.OK {
			return
		}
		free, _ := scope.Free(p)
		checkFree(t, q, strings.Join(free, " "))
		l := declaredNames(&q)
		slices.Sort(l)
		if len(slices.Compact(slices.Clone(l))) != len(declaredNames(&p)) {
			t.Errorf("Unique(%s) = %s", shown(p), shown(q))
		}
		for _, name := range l {
			if slices.Contains(free, name) {
				t.Errorf("%s is free in %s", name, shown(q))
			}
		}
		checkUnique(t, q, q)
		checkAlike(t, p, q, true)
		checkCheck(t, q, free, "", api.OK)
	})
}

// renamed returns p where the mention of this index, and what refers to it, has another name.
func renamed(p api.Process, i int, name string) api.Process {
	p = copied(p)
	l := readerOf(&p).mentions
	for _, m := range l {
		if m == l[i] || m.refers == l[i] {
			*m.at = name
		}
	}
	return p
}

// P12.4: replacing the name of a SpDeclare of one name gives an Alike process; replacing a free name in one place does not.
func TestRenaming(t *testing.T) {
	declarations := 0
	someProcesses(4, func(p api.Process, next func(int) int) {
		_, e := scope.Unique(p)
		for i, m := range readerOf(&p).mentions {
			if m.alone {
				declarations++
				checkAlike(t, p, renamed(p, i, pick(next, []string{"y", "n2", "n4", "n0", "from.host"})), e == api.OK)
			}
			if m.isFree() && next(8) == 0 {
				checkAlike(t, p, renamed(p, i, "y"), false)
			}
		}
	})
	if declarations < 1000 {
		t.Error("too few declarations:", declarations)
	}
}
