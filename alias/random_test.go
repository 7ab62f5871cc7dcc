package alias_test

import (
	"regexp"
	"slices"
	"strings"
	"testing"

	"transputer/alias"
	"transputer/api"
	"transputer/expr"
	"transputer/scope"
)

// leaves are rows of processes that are not deep. In place of $ there is any name.
var leaves = []string{
	"SKIP", "$ := $", "$ := $ + $", "$[$], $ := $, 1", "$, $, $ := 1, 2, SIZE $", "c ? $", "$ ? $[$]; $", "c ! a", "c ! a; $", "$ ! $", "c ! $[$]; $ + $", "t ? AFTER $",
	"p($, $)", "q($ + $, $)", "p($, 1, $)", "r($[$])", "q()", "s($, SIZE $)", "$($, $)", "p($)", "q($)", "r()",
}

// trees are rows of processes with others in them, for each of which there is a row @.
var trees = []string{
	"SEQ/.@/.@", "SEQ/.@/.@/.@", "PAR/.@/.@", "SEQ $ = $ FOR $/.@", "WHILE $/.@", "IF/.$/..@/.$/..@", "IF $ = $ FOR $/.$ = 1/..@", "CASE $/.$, $/..@/.ELSE/..@",
	"ALT/.$ & SKIP/..@/.c ? $/..@/.$ & t ? AFTER $/..@", "PRI ALT $ = $ FOR 2/.$ & c[$] ? $; $/..@", "c ? CASE/.a; $/..@/.b; $; $/..@",
	"INT $:/@", "[3]INT $, u:/@", "INT $, $:/@", "VAL INT $ IS $ + $:/@", "VAL INT $ IS SIZE $:/@", "VAL INT $ IS $:/@", "INT $ IS $:/@", "INT $ IS $[$]:/@", "INT $ IS $[$ + $]:/@", "CHAN OF INT $:/@", "CHAN OF q $:/@",
	"PROTOCOL o/.CASE/..a/..b; INT/:/CHAN OF o c:/@", "PROTOCOL o/.CASE/..x/..a; INT/:/CHAN OF o c:/SEQ/.@/.@",
	"PROC p()/.@/:/@", "PROC p(INT $, VAL INT u)/.@/:/@", "PROC q(VAL INT $)/.@/:/@", "PROC r(INT $)/.@/:/SEQ/.@/.@", "PROC s(CHAN OF INT $, VAL BYTE u)/.@/:/@", "PROC q(INT $, INT u, [4]INT v)/.@/:/@", "PROC $(TIMER $)/.@/:/@",
	"PROC q(VAL INT $)/.@/:/q($)", "PROC p(INT $)/.@/:/SEQ/.p($)/.@", "PROC p(INT $, VAL INT u)/.@/:/p($, $)",
}

// random returns numbers in a fixed order without a pattern.
func random(seed uint32) func(n int) int {
	return func(n int) int {
		seed = seed*1664525 + 1013904223
		return int(seed>>9) % n
	}
}

func pick[T any](next func(int) int, l []T) T { return l[next(len(l))] }

// writer writes processes with names of which some are much more frequent than others.
type writer struct {
	next  func(int) int
	names []string
}

func (w writer) named(row string) string {
	parts := strings.Split(row, "$")
	for i := 1; i < len(parts); i++ {
		parts[i] = pick(w.next, w.names) + parts[i]
	}
	return strings.Join(parts, "")
}

func (w writer) rows(depth int) []string {
	form := pick(w.next, leaves)
	if depth > 1 {
		form = pick(w.next, trees)
	}
	var rows []string
	for x := range strings.SplitSeq(form, "/") {
		before, ok := strings.CutSuffix(x, "@")
		if !ok {
			rows = append(rows, w.named(x))
			continue
		}
		for _, y := range w.rows(depth - 1 - w.next(2)) {
			rows = append(rows, before+y)
		}
	}
	return rows
}

var someNames = []string{"x", "y", "z", "a", "b", "n1", "n2", "n3", "w", "c", "k", "m", "l", "e", "f", "g", "h", "i", "j", "x1", "x2", "x3", "y1", "y2", "y3", "p", "t"}

// someProcesses calls f with many processes.
func someProcesses(seed uint32, f func(p api.Process, next func(int) int)) {
	next := random(seed)
	for range 3000 {
		w := writer{next, someNames[:3+next(len(someNames)-3)]}
		f(proc(strings.Join(w.rows(2+next(6)), "/")), next)
	}
}

// P15.1: all functions return what the chapter's rules say.
func TestRules(t *testing.T) {
	outcomes := map[api.Errno]int{}
	calls := 0 // with which rule 3 is broken
	someProcesses(1, func(p api.Process, next func(int) int) {
		want, e := checkByRules(p)
		if name, f := alias.Check(p); name != want || f != e {
			t.Errorf("Check(%s) = %q, %d, not %q, %d", shown(p), name, f, want, e)
		}
		checkNames(t, p, strings.Join(readsByRules(p), " "), strings.Join(writesByRules(p), " "))
		outcomes[e]++
		if want != "" && strings.Contains("pqrs", want) {
			calls++
		}
	})
	if outcomes[api.OK] < 1000 || outcomes[api.ErrTwice] < 30 || outcomes[api.ErrAlias] < 700 || calls < 150 {
		t.Error("the processes are too much of one sort:", outcomes, calls)
	}
}

// otherNames returns a process that is alike, in which the declared names are numbered from the last one on.
func otherNames(p api.Process) (api.Process, bool) {
	r, e := readerOf(p)
	if e != api.OK {
		return p, false
	}
	declared := r.known[len(r.free):]
	return proc(regexp.MustCompile(`\bn\d+\b`).ReplaceAllStringFunc(textOf(r.q), func(name string) string {
		if slices.Contains(r.free, name) || !slices.Contains(declared, name) {
			return name
		}
		return "z." + name
	})), true
}

// P15.2: Writes returns a part of Reads, and the declared names make no difference.
func TestAlike(t *testing.T) {
	alike := 0
	someProcesses(2, func(p api.Process, next func(int) int) {
		reads, writes := alias.Reads(p), alias.Writes(p)
		if slices.ContainsFunc(writes, func(name string) bool { return !slices.Contains(reads, name) }) {
			t.Errorf("Writes(%s) = %q, but Reads %q", shown(p), writes, reads)
		}
		other, ok := otherNames(p)
		if !ok {
			return
		}
		if !scope.Alike(p, other) {
			t.Fatalf("%s is not alike to %s", shown(other), shown(p))
		}
		alike++
		_, e := alias.Check(p)
		unique, _ := scope.Unique(p)
		for _, q := range []api.Process{other, unique} {
			checkNames(t, q, strings.Join(reads, " "), strings.Join(writes, " "))
			if _, f := alias.Check(q); e != f {
				t.Errorf("Check(%s) returns %d, but for %s %d", shown(p), e, shown(q), f)
			}
		}
	})
	if alike < 2000 {
		t.Error("too few processes:", alike)
	}
}

// P15.3: an assignment to a name in the E of an abbreviation, at the end of its scope, breaks a rule.
func TestAssignment(t *testing.T) {
	accepted := 0
	someProcesses(3, func(p api.Process, next func(int) int) {
		w := writer{next, someNames}
		form := pick(next, []string{"VAL INT $ IS $:/SKIP", "VAL INT $ IS $[$] + (SIZE $):/SKIP", "INT $ IS $:/SKIP", "INT $ IS $[$]:/SKIP", "INT $ IS $[$ + $[SIZE $]]:/SKIP"})
		q := proc(w.named(form))
		q.L[0] = p
		if _, e := alias.Check(q); e != api.OK {
			return
		}
		x := q.Spec.Names[0]
		for _, n := range expr.Names(q.Spec.E) {
			if n == x {
				continue
			}
			accepted++
			for _, assignment := range []string{n + " := 1", "u, " + n + "[2] := 1, 2"} {
				q.L[0] = api.Process{Kind: api.PrSeq, L: []api.Process{p, proc(assignment)}}
				checkProcess(t, q, x)
				checkProcess(t, api.Process{Kind: api.PrSpec, Spec: proc("INT u:/SKIP").Spec, L: []api.Process{q}}, x)
			}
		}
	})
	if accepted < 1000 {
		t.Error("too few abbreviations:", accepted)
	}
}

// P15.4: the scope of a declaration whose names do not occur in a process makes no difference to it.
func TestDeclarations(t *testing.T) {
	someProcesses(4, func(p api.Process, next func(int) int) {
		q := proc(pick(next, []string{"INT o1:/SKIP", "[3]BYTE o1, n9, A:/SKIP", "CHAN OF INT o1, o2:/SKIP", "TIMER n7:/SKIP", "VAL INT o1 IS 3:/SKIP", "PROTOCOL o1 IS INT:/SKIP", "PROC o1(INT o2, VAL INT o3)/.o2 := o3/:/SKIP", "SEQ o1 = 0 FOR 3/.SKIP"}))
		q.L[0] = p
		want, e := alias.Check(p)
		if name, f := alias.Check(q); name != want || f != e {
			t.Errorf("Check(%s) = %q, %d, not %q, %d", shown(q), name, f, want, e)
		}
		checkNames(t, q, strings.Join(alias.Reads(p), " "), strings.Join(alias.Writes(p), " "))
	})
}
