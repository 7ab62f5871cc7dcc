package syntax_test

import (
	"slices"
	"strings"
	"testing"

	"transputer/api"
	"transputer/layout"
	"transputer/syntax"
)

func checkPrint(t *testing.T, p api.Process, want []api.Row) {
	t.Helper()
	l, e := syntax.Print(p)
	if e != api.OK || !slices.Equal(l, want) {
		t.Errorf("Print(%s) = %s, %d, want %s", brief(p), shown(l), e, shown(want))
	}
}

// P11.2: the rows of each sample, as they are and within other processes.
func TestPrintSamples(t *testing.T) {
	for _, c := range samples() {
		want := rows(c.s)
		checkPrint(t, c.p, want)
		if !slices.Equal(rowsByRules(c.p), want) {
			t.Errorf("%s by the rules is %s", c.s, shown(rowsByRules(c.p)))
		}
		checkPrint(t, declare(c.p), rows("INT x:/"+c.s))
		if strings.Contains(c.s, "PLACED") {
			continue
		}
		lower := "/." + strings.ReplaceAll(c.s, "/", "/.")
		lowest := strings.ReplaceAll(lower, "/", "/.")
		checkPrint(t, seq(c.p, skip), rows("SEQ"+lower+"/.SKIP"))
		checkPrint(t, procedure(c.p, stop), rows("PROC f()"+lower+"/:/STOP"))
		checkPrint(t, ifs(c.p), rows("IF/.TRUE"+lowest))
		checkPrint(t, placed(skip, c.p), rows("PLACED PAR/.PROCESSOR 0/..SKIP/.PROCESSOR 0"+lowest))
	}
}

// P11.2: the example of the chapter.
func TestPrintExample(t *testing.T) {
	checkPrint(t, while(skip), []api.Row{{No: 1, Depth: 0, Text: "WHILE TRUE"}, {No: 2, Depth: 1, Text: "SKIP"}})
}

// P11.2: elements and expressions of all kinds, in each place.
func TestPrintExpressions(t *testing.T) {
	for _, x := range slices.Concat(elements(), values()) {
		s := text(x)
		places := []sample{
			{"a := " + s, api.Process{Kind: api.PrAssign, Targets: exprs(name("a")), Exprs: exprs(x)}},
			{"c ! 1; " + s, api.Process{Kind: api.PrOutput, Chan: name("c"), Exprs: exprs(number(1), x)}},
			{"t ? AFTER " + s, api.Process{Kind: api.PrAfter, Chan: name("t"), Exprs: exprs(x)}},
			{"SEQ i = " + s + " FOR 1/.SKIP", api.Process{Kind: api.PrSeq, Rep: api.Rep{Name: "i", Base: x, Count: number(1)}, L: procs(skip)}},
			{"SEQ i = 1 FOR " + s + "/.SKIP", api.Process{Kind: api.PrSeq, Rep: api.Rep{Name: "i", Base: number(1), Count: x}, L: procs(skip)}},
			{"CASE " + s, api.Process{Kind: api.PrCase, Exprs: exprs(x)}},
			{"WHILE " + s + "/.SKIP", api.Process{Kind: api.PrWhile, Exprs: exprs(x), L: procs(skip)}},
			{"f(" + s + ")", api.Process{Kind: api.PrCall, Name: "f", Exprs: exprs(x)}},
			{"IF/." + s + "/..SKIP", api.Process{Kind: api.PrIf, Guards: guards(guarded(api.Guard{Kind: api.GuIf, Cond: x}, skip))}},
			{"ALT/." + s + " & SKIP/..SKIP", api.Process{Kind: api.PrAlt, Guards: guards(guarded(api.Guard{Kind: api.GuSkip, Cond: x}, skip))}},
			{"ALT/." + s + " & c ? x/..SKIP", api.Process{Kind: api.PrAlt, Guards: guards(guarded(api.Guard{Kind: api.GuInput, Cond: x, Chan: name("c"), Targets: exprs(name("x"))}, skip))}},
			{"ALT/." + s + " & t ? AFTER " + s + "/..SKIP", api.Process{Kind: api.PrAlt, Guards: guards(guarded(api.Guard{Kind: api.GuAfter, Cond: x, Chan: name("t"), Time: x}, skip))}},
			{"CASE 1/." + s + ", " + s + "/..SKIP", api.Process{Kind: api.PrCase, Exprs: exprs(number(1)), Guards: guards(guarded(api.Guard{Kind: api.GuOption, Values: exprs(x, x)}, skip))}},
			{"VAL INT v IS " + s + ":/SKIP", spec(api.Spec{Kind: api.SpVal, Type: integer, Names: []string{"v"}, E: x}, skip)},
		}
		if x.Kind == api.ExName || x.Kind == api.ExIndex {
			places = append(places,
				sample{s + " := 1", api.Process{Kind: api.PrAssign, Targets: exprs(x), Exprs: exprs(number(1))}},
				sample{s + " ? x; " + s, api.Process{Kind: api.PrInput, Chan: x, Targets: exprs(name("x"), x)}},
				sample{s + " ! 1", api.Process{Kind: api.PrOutput, Chan: x, Exprs: exprs(number(1))}},
				sample{s + " ? AFTER 1", api.Process{Kind: api.PrAfter, Chan: x, Exprs: exprs(number(1))}},
				sample{s + " ? CASE/.a; " + s + "/..SKIP", api.Process{Kind: api.PrCaseIn, Chan: x, Guards: guards(guarded(api.Guard{Kind: api.GuTag, Name: "a", Targets: exprs(x)}, skip))}},
				sample{"ALT/." + s + " ? " + s + "/..SKIP", api.Process{Kind: api.PrAlt, Guards: guards(guarded(api.Guard{Kind: api.GuInput, Chan: x, Targets: exprs(x)}, skip))}},
				sample{"BYTE v IS " + s + ":/SKIP", spec(api.Spec{Kind: api.SpIs, Type: character, Names: []string{"v"}, E: x}, skip)})
		}
		for _, c := range places {
			l, e := syntax.Print(c.p)
			want := rows(c.s)
			if slices.ContainsFunc(want, func(x api.Row) bool { return len(x.Text) > 256 || s == "" }) {
				if e != api.ErrLong || len(l) > 0 {
					t.Errorf("Print of %s = %d", c.s, e)
				}
				continue
			}
			checkPrint(t, c.p, want)
			checkParse(t, c.s, c.p)
		}
	}
}

// P11.2: types in each place.
func TestPrintTypes(t *testing.T) {
	for _, ty := range []api.Type{integer, character, truthful, array, channel, named, channels, timer, {Kind: api.TyInt, Dim: 1}, {Kind: api.TyChan, Dim: 64, Item: api.TyBool}} {
		s := strings.ReplaceAll(typeText(ty), " [", "[")
		c := sample{s + " x, y:/SKIP", spec(api.Spec{Kind: api.SpDeclare, Type: ty, Names: []string{"x", "y"}}, skip)}
		checkPrint(t, c.p, rows(c.s))
		checkParse(t, c.s, c.p)
		c = sample{"PROC f(" + s + " x, " + s + " y)/.STOP/:/SKIP", spec(api.Spec{Kind: api.SpProc, Names: []string{"f"}, Formals: []api.Formal{{Type: ty, Name: "x"}, {Type: ty, Name: "y"}}, Body: procs(stop)}, skip)}
		checkPrint(t, c.p, rows(c.s))
		checkParse(t, c.s, c.p)
	}
}

// long returns names that are together, with a symbol and a space between two of them, so many bytes.
func long(n int) (l []string) {
	count := (n + 2 + 33) / 34
	n -= 2 * (count - 1)
	for i := range count {
		l = append(l, strings.Repeat("n", n/(count-i)))
		n -= len(l[i])
	}
	return l
}

// longElements returns such names as elements.
func longElements(n int) (l []api.Expr) {
	for _, s := range long(n) {
		l = append(l, name(s))
	}
	return l
}

// output returns an output whose row has n bytes.
func output(n int) api.Process {
	return api.Process{Kind: api.PrOutput, Chan: name("c"), Exprs: longElements(n - len("c ! "))}
}

// widened returns processes that have a row whose text has n bytes.
func widened(n int) []api.Process {
	elements := func(used int) []api.Expr { return longElements(n - used) }
	g := api.Guard{Kind: api.GuTag, Name: "a", Targets: elements(len("a; "))}
	o := api.Guard{Kind: api.GuOption, Values: elements(0)}
	a := api.Guard{Kind: api.GuInput, Cond: name("x"), Chan: name("c"), Targets: elements(len("x & c ? "))}
	var formals []api.Formal
	for range 7 {
		formals = append(formals, api.Formal{Type: array, Name: strings.Repeat("n", 20)}) // [64] BOOL and a space: 10, and a comma and a space
	}
	formals = append(formals, api.Formal{Type: integer, Name: strings.Repeat("n", n-len("PROC f(")-7*(10+20+2)-len("INT )"))})
	return []api.Process{
		output(n),
		{Kind: api.PrAssign, Targets: exprs(name("x")), Exprs: elements(len("x := "))},
		{Kind: api.PrCall, Name: "f", Exprs: elements(len("f()"))},
		{Kind: api.PrCaseIn, Chan: name("c"), Guards: guards(guarded(g, skip))},
		{Kind: api.PrCase, Exprs: exprs(name("c")), Guards: guards(guarded(o, skip))},
		{Kind: api.PrAlt, Guards: guards(guarded(a, skip))},
		spec(api.Spec{Kind: api.SpDeclare, Type: integer, Names: long(n - len("INT :"))}, skip),
		spec(api.Spec{Kind: api.SpProc, Names: []string{"f"}, Formals: formals, Body: procs(skip)}, skip),
	}
}

// P11.2: a row of 256 bytes, and one of 257.
func TestPrintLongRow(t *testing.T) {
	for n := 255; n <= 258; n++ {
		for _, p := range widened(n) {
			want := rowsByRules(p)
			if n <= 256 && !slices.ContainsFunc(want, func(x api.Row) bool { return len(x.Text) == n }) || !syntax.May(p) {
				t.Fatalf("%s", shown(want))
			}
			for _, x := range []api.Process{p, seq(skip, p), seq(p, stop), procedure(p, skip), declare(ifs(p))} {
				l, e := syntax.Print(x)
				if n <= 256 && (e != api.OK || !slices.Equal(l, rowsByRules(x))) || n > 256 && (e != api.ErrLong || len(l) > 0) {
					t.Errorf("%d bytes: Print(%s) = %s, %d", n, brief(x), shown(l), e)
				}
			}
			p.Procs = []int{1}
			if l, e := syntax.Print(p); e != api.ErrArg || len(l) > 0 {
				t.Errorf("not valid, and a row of %d bytes: %d", n, e)
			}
		}
	}
}

// P11.2: 2048 rows, and 2049, of fewer processes.
func TestPrintManyRows(t *testing.T) {
	protocol := spec(api.Spec{Kind: api.SpProto, Names: []string{"p"}, Proto: api.Proto{Cases: true, L: variants(16)}}, skip)
	for n := 2040; n <= 2056; n++ {
		for what, p := range map[string]api.Process{
			"guards":    seq(slices.Repeat(procs(ifs(skip)), (n-1)/3)...),
			"protocols": seq(slices.Repeat(procs(protocol), (n-1)/20)...),
			"bodies":    seq(slices.Repeat(procs(procedure(skip, skip)), (n-1)/4)...),
		} {
			for len(rowsByRules(p)) < n {
				p.L = append(p.L, skip)
			}
			if !syntax.May(p) {
				t.Fatalf("%s of %d is not valid", what, n)
			}
			l, e := syntax.Print(p)
			if n <= 2048 && (e != api.OK || len(l) != n || !slices.Equal(l, rowsByRules(p))) || n > 2048 && (e != api.ErrLong || len(l) > 0) {
				t.Errorf("%s of %d rows: %d, %d", what, n, len(l), e)
			}
		}
	}
}

// heavy returns a valid process with few rows, whose size as a source text is n: each row counts its text, twice its depth and one.
func heavy(n int) api.Process {
	p := seq()
	left := n - len("SEQ") - 1
	for left > 500 {
		p.L = append(p.L, output(256)) // at depth 1
		left -= 256 + 2 + 1
	}
	for _, used := range []int{left / 2, left - left/2} {
		p.L = append(p.L, output(used-3))
	}
	return p
}

// P11.2: rows that are together as long as layer 7 allows, and one byte longer.
func TestPrintHeavy(t *testing.T) {
	for n := 65530; n <= 65545; n++ {
		p := heavy(n)
		sum := 0
		for _, x := range rowsByRules(p) {
			sum += 2*x.Depth + len(x.Text) + 1
		}
		if sum != n || !syntax.May(p) {
			t.Fatalf("%d, not %d", sum, n)
		}
		l, e := syntax.Print(p)
		if n <= 65537 && (e != api.OK || !slices.Equal(l, rowsByRules(p))) || n > 65537 && (e != api.ErrLong || len(l) > 0) {
			t.Errorf("%d bytes: %d, %d", n, len(l), e)
		}
	}
}

// P11.2, P11.4: Print is as by the chapter's rules, and Parse returns what was printed, for many processes without a pattern.
func TestPrintRandom(t *testing.T) {
	next := random(13)
	kinds := map[api.ProcKind]int{}
	guardKinds := map[api.GuardKind]int{}
	specKinds := map[api.SpecKind]int{}
	for range 20000 {
		p := anyProcess(next, 1+next(7), true)
		want := rowsByRules(p)
		l, e := syntax.Print(p)
		if !layout.May(want) {
			if e != api.ErrLong || len(l) > 0 {
				t.Errorf("Print(%s) = %d", brief(p), e)
			}
			continue
		}
		if e != api.OK || !slices.Equal(l, want) {
			t.Errorf("Print(%s) = %s, %d, want %s", brief(p), shown(l), e, shown(want))
		}
		q, row, e := syntax.Parse(l)
		if e != api.OK || row != 0 || !syntax.Same(p, q) {
			t.Errorf("Parse(%s) = %s, %d, %d", shown(l), brief(q), row, e)
		}
		inside(&p, func(x *api.Process) {
			kinds[x.Kind]++
			specKinds[x.Spec.Kind]++
			for _, g := range x.Guards {
				guardKinds[g.Kind]++
			}
		})
	}
	if len(kinds) != 18 || len(guardKinds) != 7 || len(specKinds) != 6 {
		t.Errorf("not all kinds: %v, %v, %v", kinds, guardKinds, specKinds)
	}
}

// P11.2, R6: the argument is unchanged, and changing the rows changes nothing but the rows.
func TestPrintMemory(t *testing.T) {
	for _, c := range samples() {
		was := copied(c.p)
		l, _ := syntax.Print(c.p)
		for i := range l {
			l[i] = api.Row{}
		}
		for i := range l[:cap(l)] {
			l[:cap(l)][i] = api.Row{No: -1}
		}
		if !syntax.Same(c.p, was) {
			t.Errorf("%s has been changed", c.s)
		}
		checkPrint(t, c.p, rows(c.s))
	}
}
