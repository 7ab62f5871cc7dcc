package syntax_test

import (
	"slices"
	"strings"
	"testing"

	"transputer/api"
	"transputer/layout"
	"transputer/lex"
	"transputer/syntax"
)

// checkParse checks that rows, as a text, are those of a process.
func checkParse(t *testing.T, s string, want api.Process) {
	t.Helper()
	p, row, e := syntax.Parse(rows(s))
	if e != api.OK || row != 0 || !syntax.Same(p, want) {
		t.Errorf("Parse(%s) = %s, %d, %d", s, brief(p), row, e)
	}
}

// checkFailure checks that rows end in an error, at a row.
func checkFailure(t *testing.T, l []api.Row, row int, e api.Errno) {
	t.Helper()
	p, gotRow, got := syntax.Parse(l)
	if got != e || gotRow != row || !syntax.Same(p, api.Process{}) {
		t.Errorf("Parse(%s) = %s, %d, %d, want %d, %d", shown(l), brief(p), gotRow, got, row, e)
	}
}

// checkRules checks what Parse returns for rows against the reader by rules, and tells whether they are a process.
func checkRules(t *testing.T, l []api.Row) bool {
	t.Helper()
	row, e := parseByRules(l)
	if e != api.OK {
		checkFailure(t, l, row, e)
		return false
	}
	p, gotRow, got := syntax.Parse(l)
	if got != api.OK || gotRow != 0 || !syntax.May(p) {
		t.Errorf("Parse(%s) = %s, %d, %d", shown(l), brief(p), gotRow, got)
		return true
	}
	printed, e := syntax.Print(p)
	if e == api.OK {
		if q, row, e := syntax.Parse(printed); e != api.OK || row != 0 || !syntax.Same(p, q) {
			t.Errorf("Parse(%s) = %s, %d, %d, want %s", shown(printed), brief(q), row, e, brief(p))
		}
	}
	return true
}

// P11.3, P11.4: the samples, and each of them cut off, with a row behind it, and with other numbers of rows.
func TestParseSamples(t *testing.T) {
	for _, c := range samples() {
		checkParse(t, c.s, c.p)
		l := rows(c.s)
		checkRules(t, l)
		for n := range l {
			if row, e := parseByRules(l[:n]); e != api.OK {
				checkFailure(t, l[:n], n, api.ErrSyntax)
				if row != n {
					t.Errorf("%s by the rules: %d, %d", shown(l[:n]), row, e)
				}
			} else {
				checkRules(t, l[:n])
			}
		}
		for depth := range 4 {
			for _, s := range []string{"SKIP", ":", "$", "TRUE", "PROCESSOR 1", "ELSE", "t", "c ? x", "INT x:", "x := 1", "CASE", "PLACED PAR", "t99", "end; x"} {
				for n := range len(l) + 1 {
					checkRules(t, numbered(slices.Insert(slices.Clone(l), n, api.Row{Depth: depth, Text: s})))
				}
			}
		}
		checkFailure(t, append(slices.Clone(l), api.Row{No: len(l) + 1, Text: "$"}), len(l), api.ErrToken)
		for i := range l {
			l[i].No = 100 + i*i*7
		}
		if p, row, e := syntax.Parse(l); e != api.OK || row != 0 || !syntax.Same(p, c.p) {
			t.Errorf("%s with other numbers: %s, %d, %d", c.s, brief(p), row, e)
		}
	}
}

// numbered returns rows with the numbers from 1 on.
func numbered(l []api.Row) []api.Row {
	for i := range l {
		l[i].No = i + 1
	}
	return l
}

// P11.3: the chapter's examples and its table, and the edges that it names.
func TestParseFailures(t *testing.T) {
	for _, c := range []struct {
		s   string
		row int
		e   api.Errno
	}{
		{"PRI PAR/.SKIP", 2, api.ErrSyntax},
		{"SEQ/.x := 1/..SKIP", 2, api.ErrSyntax},
		{"SEQ i = 0 FOR 3/.SKIP/.SKIP", 2, api.ErrSyntax},
		{"SKIP/SKIP", 1, api.ErrSyntax},
		{"(x) := 1", 0, api.ErrSyntax},
		{"x := 1 + 2 + 3", 0, api.ErrSyntax},
		{"", 0, api.ErrSyntax},
		{"SEQ/.x := $", 1, api.ErrToken},
		{"INT x:", 1, api.ErrSyntax},

		{"SKIP/$", 1, api.ErrToken},
		{"SKIP/.$", 1, api.ErrToken},
		{"$/x x", 0, api.ErrToken},
		{"x x/$", 0, api.ErrSyntax},
		{"INT x:/.$", 1, api.ErrToken},
		{"WHILE TRUE/$", 1, api.ErrToken},
		{"WHILE TRUE/SKIP", 1, api.ErrSyntax},
		{"WHILE TRUE/.SKIP/.SKIP", 2, api.ErrSyntax},
		{"IF/.TRUE/.SKIP", 2, api.ErrSyntax},
		{"IF/.TRUE/..SKIP/..SKIP", 3, api.ErrSyntax},
		{"IF i = 0 FOR 1/.TRUE/..SKIP/.TRUE/..SKIP", 3, api.ErrSyntax},
		{"IF i = 0 FOR 1", 1, api.ErrSyntax},
		{"ALT i = 0 FOR 1/SKIP", 1, api.ErrSyntax},
		{"SEQ i = 0 FOR 1/SKIP", 1, api.ErrSyntax},
		{"SEQ i = 0", 0, api.ErrSyntax},
		{"SEQ i", 0, api.ErrSyntax},
		{"SEQ i 0 FOR 1/.SKIP", 0, api.ErrSyntax},
		{"SEQ = 0 FOR 1/.SKIP", 0, api.ErrSyntax},
		{"SEQ i = FOR 1/.SKIP", 0, api.ErrSyntax},
		{"SEQ i = 0 1/.SKIP", 0, api.ErrSyntax},
		{"SEQ i = 0 FOR", 0, api.ErrSyntax},
		{"SEQ i[1] = 0 FOR 1/.SKIP", 0, api.ErrSyntax},
		{"PRI PAR i = 0 FOR 2/.SKIP/.SKIP", 0, api.ErrSyntax},
		{"PLACED PAR i = 0 FOR 2/.PROCESSOR 0/..SKIP", 0, api.ErrSyntax},
		{"PRI/.SKIP", 0, api.ErrSyntax},
		{"PRI IF", 0, api.ErrSyntax},
		{"PLACED", 0, api.ErrSyntax},
		{"PLACED ALT", 0, api.ErrSyntax},
		{"PLACED PAR", 1, api.ErrSyntax},
		{"PLACED PAR/SKIP", 1, api.ErrSyntax},
		{"PLACED PAR/.PROCESSOR -1/..SKIP", 1, api.ErrSyntax},
		{"PLACED PAR/.PROCESSOR 8/..SKIP", 1, api.ErrSyntax},
		{"PLACED PAR/.PROCESSOR #FFFFFFFF/..SKIP", 1, api.ErrSyntax},
		{"PLACED PAR/.PROCESSOR (1)/..SKIP", 1, api.ErrSyntax},
		{"PLACED PAR/.PROCESSOR n/..SKIP", 1, api.ErrSyntax},
		{"PLACED PAR/.PROCESSOR '1'/..SKIP", 1, api.ErrSyntax},
		{"PLACED PAR/.PROCESSOR/..SKIP", 1, api.ErrSyntax},
		{"PLACED PAR/.PROCESSOR 1 1/..SKIP", 1, api.ErrSyntax},
		{"PLACED PAR/.PROCESSOR 1/.SKIP", 2, api.ErrSyntax},
		{"PLACED PAR/.PROCESSOR 1/..SKIP/..SKIP", 3, api.ErrSyntax},
		{"PLACED PAR/.PROCESSOR 1/..PLACED PAR/...PROCESSOR 1/....SKIP", 2, api.ErrSyntax},
		{"PROC f()/.PLACED PAR/..PROCESSOR 1/...SKIP/:/SKIP", 1, api.ErrSyntax},
		{"INT x:/SEQ/.INT y:/.PLACED PAR/..PROCESSOR 1/...SKIP", 3, api.ErrSyntax},
		{"PROTOCOL p/.CASE/..t/..u/..t; INT/:/SKIP", 4, api.ErrSyntax},
		{"PROTOCOL p/.CASE/..t/..t $/:/SKIP", 3, api.ErrToken},
		{"PROTOCOL p/.CASE/:/SKIP", 2, api.ErrSyntax},
		{"PROTOCOL p/.CASE/..t/SKIP", 3, api.ErrSyntax},
		{"PROTOCOL p/.CASE/..t/.:/SKIP", 3, api.ErrSyntax},
		{"PROTOCOL p/.CASE/..t/..:/SKIP", 3, api.ErrSyntax},
		{"PROTOCOL p/.CASE/.t/:/SKIP", 2, api.ErrSyntax},
		{"PROTOCOL p/CASE/.t/:/SKIP", 1, api.ErrSyntax},
		{"PROTOCOL p/.CASE x/..t/:/SKIP", 1, api.ErrSyntax},
		{"PROTOCOL p/.CASE/..t/...u/:/SKIP", 3, api.ErrSyntax},
		{"PROTOCOL p/.CASE/..t/:", 4, api.ErrSyntax},
		{"PROTOCOL p/:/SKIP", 1, api.ErrSyntax},
		{"PROTOCOL p:/SKIP", 0, api.ErrSyntax},
		{"PROTOCOL p IS INT:/.CASE/..t/:/SKIP", 1, api.ErrSyntax},
		{"PROTOCOL p IS [2] INT:/SKIP", 0, api.ErrSyntax},
		{"PROTOCOL p IS INT, INT:/SKIP", 0, api.ErrSyntax},
		{"PROTOCOL p IS INT/SKIP", 0, api.ErrSyntax},
		{"PROTOCOL p, q IS INT:/SKIP", 0, api.ErrSyntax},
		{"PROC f()/.SKIP", 2, api.ErrSyntax},
		{"PROC f()/.SKIP/:", 3, api.ErrSyntax},
		{"PROC f()/.SKIP/.:/SKIP", 2, api.ErrSyntax},
		{"PROC f()/.SKIP/SKIP", 2, api.ErrSyntax},
		{"PROC f()/:/SKIP", 1, api.ErrSyntax},
		{"PROC f()/.INT x:/:/SKIP", 2, api.ErrSyntax},
		{"PROC f():/.SKIP/:/SKIP", 0, api.ErrSyntax},
		{"PROC f()/.SKIP/: SKIP", 2, api.ErrSyntax},
		{"PROC f(INT)/.SKIP/:/SKIP", 0, api.ErrSyntax},
		{"PROC f(INT a, b)/.SKIP/:/SKIP", 0, api.ErrSyntax},
		{"PROC f(INT a; INT b)/.SKIP/:/SKIP", 0, api.ErrSyntax},
		{"PROC f(VAL CHAN OF INT a)/.SKIP/:/SKIP", 0, api.ErrSyntax},
		{"PROC f(VAL TIMER a)/.SKIP/:/SKIP", 0, api.ErrSyntax},
		{"PROC f(VAL [2] INT a)/.SKIP/:/SKIP", 0, api.ErrSyntax},
		{"PROC f(VAL a)/.SKIP/:/SKIP", 0, api.ErrSyntax},
		{"PROC f(INT VAL a)/.SKIP/:/SKIP", 0, api.ErrSyntax},
		{"PROC f(INT a,)/.SKIP/:/SKIP", 0, api.ErrSyntax},
		{"PROC f(,)/.SKIP/:/SKIP", 0, api.ErrSyntax},
		{"PROC f(INT a/.SKIP/:/SKIP", 0, api.ErrSyntax},
		{"PROC (INT a)/.SKIP/:/SKIP", 0, api.ErrSyntax},
		{"VAL TIMER t IS x:/SKIP", 0, api.ErrSyntax},
		{"VAL [2] INT t IS x:/SKIP", 0, api.ErrSyntax},
		{"VAL INT x, y IS 1:/SKIP", 0, api.ErrSyntax},
		{"VAL INT x IS 1/SKIP", 0, api.ErrSyntax},
		{"VAL INT x:/SKIP", 0, api.ErrSyntax},
		{"VAL x IS 1:/SKIP", 0, api.ErrSyntax},
		{"INT x IS (y):/SKIP", 0, api.ErrSyntax},
		{"INT x IS y + 1:/SKIP", 0, api.ErrSyntax},
		{"INT x IS y, z:/SKIP", 0, api.ErrSyntax},
		{"CHAN OF INT x IS y:/SKIP", 0, api.ErrSyntax},
		{"TIMER x IS y:/SKIP", 0, api.ErrSyntax},
		{"INT x, y IS z:/SKIP", 0, api.ErrSyntax},
		{"INT:/SKIP", 0, api.ErrSyntax},
		{"INT x y:/SKIP", 0, api.ErrSyntax},
		{"[65] INT x:/SKIP", 0, api.ErrSyntax},
		{"[0] INT x:/SKIP", 0, api.ErrSyntax},
		{"[2] TIMER x:/SKIP", 0, api.ErrSyntax},
		{"CHAN x:/SKIP", 0, api.ErrSyntax},
		{"x[(i] := 1", 0, api.ErrSyntax},
		{"x, (y) := 1", 0, api.ErrSyntax},
		{"x := 1; 2", 0, api.ErrSyntax},
		{"x; y := 1", 0, api.ErrSyntax},
		{"x := y := z", 0, api.ErrSyntax},
		{"c ? x, y", 0, api.ErrSyntax},
		{"c ? x + 1", 0, api.ErrSyntax},
		{"c ? 1", 0, api.ErrSyntax},
		{"(c) ? x", 0, api.ErrSyntax},
		{"c + d ? x", 0, api.ErrSyntax},
		{"c ? AFTER", 0, api.ErrSyntax},
		{"c ? AFTER x; y", 0, api.ErrSyntax},
		{"c ? AFTER x y", 0, api.ErrSyntax},
		{"c ! x, y", 0, api.ErrSyntax},
		{"c ! AFTER x", 0, api.ErrSyntax},
		{"c ! CASE", 0, api.ErrSyntax},
		{"v[1](x)", 0, api.ErrSyntax},
		{"f(x) := 1", 0, api.ErrSyntax},
		{"f x", 0, api.ErrSyntax},
		{"f(x", 0, api.ErrSyntax},
		{"f(x; y)", 0, api.ErrSyntax},
		{"f(,)", 0, api.ErrSyntax},
		{"f((x, y))", 0, api.ErrSyntax},
		{"f()()", 0, api.ErrSyntax},
		{"SKIP 1", 0, api.ErrSyntax},
		{"STOP :", 0, api.ErrSyntax},
		{"'a'", 0, api.ErrSyntax},
		{"TRUE", 0, api.ErrSyntax},
		{"ELSE", 0, api.ErrSyntax},
		{"PROCESSOR 1", 0, api.ErrSyntax},
		{"CASE", 0, api.ErrSyntax},
		{"CASE x, y", 0, api.ErrSyntax},
		{"CASE x/.SKIP/..SKIP", 1, api.ErrSyntax},
		{"CASE x/.1; 2/..SKIP", 1, api.ErrSyntax},
		{"CASE x/.ELSE", 2, api.ErrSyntax},
		{"c ? CASE/.(t)/..SKIP", 1, api.ErrSyntax},
		{"c ? CASE/.t, x/..SKIP", 1, api.ErrSyntax},
		{"c ? CASE/.t; (x)/..SKIP", 1, api.ErrSyntax},
		{"c ? CASE/.t[1]/..SKIP", 1, api.ErrSyntax},
		{"c ? CASE/.t", 2, api.ErrSyntax},
		{"c ? CASE/SKIP", 1, api.ErrSyntax},
		{"ALT/.SKIP/..SKIP", 1, api.ErrSyntax},
		{"ALT/.& SKIP/..SKIP", 1, api.ErrSyntax},
		{"ALT/.x & STOP/..SKIP", 1, api.ErrSyntax},
		{"ALT/.x & y & c ? z/..SKIP", 1, api.ErrSyntax},
		{"ALT/.(c) ? x/..SKIP", 1, api.ErrSyntax},
		{"ALT/.c ? (x)/..SKIP", 1, api.ErrSyntax},
		{"ALT/.c ? CASE/..SKIP", 1, api.ErrSyntax},
		{"ALT/.c ? AFTER/..SKIP", 1, api.ErrSyntax},
		{"ALT/.x & SKIP 1/..SKIP", 1, api.ErrSyntax},
		{"ALT/.ALT/..c ? x/...SKIP", 1, api.ErrSyntax},
		{"IF/.IF/..TRUE/...SKIP", 1, api.ErrSyntax},
		{"IF/.TRUE, FALSE/..SKIP", 1, api.ErrSyntax},
		{"IF/.TRUE & SKIP/..SKIP", 1, api.ErrSyntax},
		{"x := " + many("(", 33, "") + "1" + many(")", 33, ""), 0, api.ErrSyntax},
		{"SEQ/.SKIP/$/SKIP", 2, api.ErrToken},
		{"SEQ/.1x/.$", 1, api.ErrToken},
		{"SEQ/.SKIP/.f(/.$", 0, api.ErrArg},
	} {
		checkFailure(t, rows(c.s), c.row, c.e)
		if row, e := parseByRules(rows(c.s)); row != c.row || e != c.e {
			t.Errorf("%s by the rules: %d, %d", c.s, row, e)
		}
	}
}

// P11.3: what may be written in other forms than Print writes.
func TestParseForms(t *testing.T) {
	x := name("x")
	for _, c := range []sample{
		{"x:=1", api.Process{Kind: api.PrAssign, Targets: exprs(x), Exprs: exprs(number(1))}},
		{"x , v [ (i) ]:=((1)),(x)", api.Process{Kind: api.PrAssign, Targets: exprs(x, at("v", name("i"))), Exprs: exprs(number(1), x)}},
		{"c ! (put); 'a'", api.Process{Kind: api.PrOutput, Chan: name("c"), Exprs: exprs(name("put"), char('a'))}},
		{"f ( (x) )", api.Process{Kind: api.PrCall, Name: "f", Exprs: exprs(x)}},
		{"PLACED PAR/.PROCESSOR #5/..SKIP", api.Process{Kind: api.PrPlaced, L: procs(skip), Procs: []int{5}}},
		{"PLACED PAR/.PROCESSOR 0007/..SKIP", api.Process{Kind: api.PrPlaced, L: procs(skip), Procs: []int{7}}},
		{"[ #2 ]BOOL x :/SKIP", spec(api.Spec{Kind: api.SpDeclare, Type: api.Type{Kind: api.TyBool, Dim: 2}, Names: []string{"x"}}, skip)},
		{"ALT/.(x > 0)&c?x/..SKIP/.((x)) & SKIP/..SKIP", api.Process{Kind: api.PrAlt, Guards: guards(guarded(api.Guard{Kind: api.GuInput, Cond: two(x, api.OperGt, number(0)), Chan: name("c"), Targets: exprs(x)}, skip), guarded(api.Guard{Kind: api.GuSkip, Cond: x}, skip))}},
		{"WHILE(TRUE)/.SKIP", while(skip)},
		{"x := " + many("(", 32, "") + "1" + many(")", 32, ""), api.Process{Kind: api.PrAssign, Targets: exprs(x), Exprs: exprs(number(1))}},
	} {
		checkParse(t, c.s, c.p)
	}
}

// P11.3: each list as long as it may be, and longer by one.
func TestParseLists(t *testing.T) {
	for _, c := range []struct {
		before, one, between, behind string
		least, most                  int
	}{
		{"", "x", ", ", " := 1", 1, 8},
		{"x := ", "1", ", ", "", 1, 8},
		{"c ? ", "x", "; ", "", 1, 8},
		{"c ! ", "x", "; ", "", 1, 9},
		{"f(", "x", ", ", ")", 0, 8},
		{"INT ", "x", ", ", ":/SKIP", 1, 8},
		{"PROTOCOL p IS ", "INT", "; ", ":/SKIP", 1, 8},
		{"PROTOCOL p/.CASE/..t", "; INT", "", "/:/SKIP", 0, 8},
		{"PROC f(", "INT x", ", ", ")/.SKIP/:/SKIP", 0, 8},
		{"PROC f(", "VAL INT x", ", ", ")/.SKIP/:/SKIP", 0, 8},
		{"ALT/.c ? ", "x", "; ", "/..SKIP", 1, 8},
		{"CASE x/.", "1", ", ", "/..SKIP", 1, 8},
		{"c ? CASE/.t", "; x", "", "/..SKIP", 0, 8},
		{"IF", "/.TRUE/..SKIP", "", "", 0, 16},
		{"ALT", "/.c ? x/..SKIP", "", "", 0, 16},
		{"PRI ALT", "/.TRUE & SKIP/..SKIP", "", "", 0, 16},
		{"CASE x", "/.ELSE/..SKIP", "", "", 0, 16},
		{"c ? CASE", "/.t/..SKIP", "", "", 1, 16},
		{"PRI PAR", "/.SKIP", "", "", 2, 2},
		{"SEQ i = 0 FOR 1", "/.SKIP", "", "", 1, 1},
		{"IF i = 0 FOR 1", "/.TRUE/..SKIP", "", "", 1, 1},
		{"WHILE TRUE", "/.SKIP", "", "", 1, 1},
		{"PLACED PAR", "/.PROCESSOR 0/..SKIP", "", "", 1, 8},
		{"PAR", "/.SKIP", "", "", 0, 100},
	} {
		for n := range c.most + 2 {
			l := rows(c.before + many(c.one, n, c.between) + c.behind)
			want := c.least <= n && (n <= c.most || c.most == 100)
			if _, _, e := syntax.Parse(l); (e == api.OK) != want {
				t.Errorf("Parse(%s) = %d", shown(l), e)
			}
			checkRules(t, l)
		}
	}
	for n := 15; n <= 18; n++ {
		l := rows("PROTOCOL p/.CASE" + variantRows(n) + "/:/SKIP")
		if checkRules(t, l) != (n <= 16) {
			t.Errorf("%d variants", n)
		}
		if n > 16 {
			checkFailure(t, l, 18, api.ErrSyntax)
		}
	}
	checkFailure(t, rows("IF"+many("/.TRUE/..SKIP", 16, "")+"/.$"), 33, api.ErrToken)
	checkFailure(t, rows("SEQ/.IF"+many("/..TRUE/...SKIP", 16, "")+"/..TRUE/...SKIP"), 34, api.ErrSyntax)
}

// tokenTexts are texts of tokens of all sorts.
var tokenTexts = strings.Fields("x c[1] 1 'a' TRUE ( ) [ ] , ; : := ? ! & + = SKIP SEQ PAR PRI PLACED PROCESSOR ALT IF CASE ELSE WHILE FOR AFTER VAL IS PROTOCOL PROC INT [2] CHAN OF TIMER SIZE NOT $")

// P11.3: each sample with a token too many, missing or changed at each place of each row.
func TestParseTokens(t *testing.T) {
	accepted := 0
	check := func(l []api.Row, row int, words []string) {
		l = slices.Clone(l)
		l[row].Text = strings.Join(words, " ")
		if checkRules(t, l) {
			accepted++
		}
	}
	for _, c := range samples() {
		l := rows(c.s)
		if len(c.s) > 150 {
			continue
		}
		for row, x := range l {
			tokens, _, _ := lex.Tokens(x.Text)
			var words []string
			for i, y := range tokens {
				end := len(x.Text)
				if i+1 < len(tokens) {
					end = tokens[i+1].At
				}
				words = append(words, strings.TrimSpace(x.Text[y.At:end]))
			}
			for i := range len(words) + 1 {
				for _, s := range tokenTexts {
					check(l, row, slices.Insert(slices.Clone(words), i, s))
					if i < len(words) {
						check(l, row, slices.Replace(slices.Clone(words), i, i+1, s))
					}
				}
				if i < len(words) {
					check(l, row, slices.Delete(slices.Clone(words), i, i+1))
					check(l, row, slices.Replace(slices.Clone(words), i, i+1, "(", words[i], ")"))
				}
			}
		}
	}
	if accepted < 1000 {
		t.Errorf("only %d are processes", accepted)
	}
}

// P11.3: each sample with the depth of each row changed, alone and together with all rows behind it, and with rows missing, doubled or exchanged.
func TestParseRows(t *testing.T) {
	for _, c := range samples() {
		l := rows(c.s)
		for i := range l {
			for _, by := range []int{-2, -1, 1, 2} {
				one, all := slices.Clone(l), slices.Clone(l)
				one[i].Depth += by
				for j := i; j < len(l); j++ {
					all[j].Depth += by
				}
				checkRules(t, one)
				checkRules(t, all)
			}
			checkRules(t, numbered(slices.Delete(slices.Clone(l), i, i+1)))
			checkRules(t, numbered(slices.Insert(slices.Clone(l), i, l[i])))
			for j := range i {
				other := slices.Clone(l)
				other[i], other[j] = other[j], other[i]
				checkRules(t, numbered(other))
			}
		}
	}
}

// P11.3: rows with one row of few tokens, in each place where a row is read in another way.
func TestParseShort(t *testing.T) {
	words := strings.Fields("x 1 TRUE ( ) [ ] , ; : := ? ! & = SKIP SEQ PAR CASE ELSE FOR AFTER INT IS VAL PROC")
	contexts := []string{"", "ALT/.", "IF/.", "CASE x/.", "c ? CASE/.", "PROTOCOL p/.CASE/..", "PLACED PAR/.", "PROTOCOL p/.", "PROC f()/.SKIP/"}
	var l []string
	var build func(n int, s string)
	build = func(n int, s string) {
		if s != "" {
			l = append(l, s)
		}
		if n == 0 {
			return
		}
		for _, w := range words {
			build(n-1, strings.TrimSpace(s+" "+w))
		}
	}
	build(3, "")
	for _, context := range contexts {
		for _, s := range l {
			checkRules(t, rows(context+s))
		}
	}
	l = nil
	words = strings.Fields("x 1 ( ) , ; : := ? ! = SKIP SEQ FOR AFTER INT")
	build(4, "")
	for _, s := range l {
		checkRules(t, rows(s))
	}
	for _, s := range l {
		if strings.Contains(s, "?") || strings.HasPrefix(s, "x ,") {
			checkRules(t, rows("ALT/.x & "+s))
			checkRules(t, rows("CASE x/."+s))
		}
	}
}

// isBeginning tells whether rows are the first ones of some process.
func isBeginning(l []api.Row) bool {
	row, e := parseByRules(l)
	return e == api.OK || e == api.ErrSyntax && row == len(l)
}

// extended returns rows with another one behind them, which they most often allow.
func extended(next func(int) int, l []api.Row, texts []string) []api.Row {
	for range 20 {
		x := api.Row{No: len(l) + 1, Text: pick(next, texts)}
		if len(l) > 0 {
			x.Depth = next(l[len(l)-1].Depth + 2)
		}
		other := append(slices.Clone(l), x)
		if isBeginning(other) || next(100) == 0 {
			return other
		}
	}
	return l
}

// completed returns rows with as many behind them as a process requires, if they are the first ones of one.
func completed(l []api.Row) []api.Row {
	for range 100 {
		if _, e := parseByRules(l); e == api.OK || !isBeginning(l) {
			break
		}
		l = append(slices.Clone(l), api.Row{No: len(l) + 1})
		x := &l[len(l)-1]
	required:
		for x.Depth = l[len(l)-2].Depth + 1; x.Depth >= 0; x.Depth-- {
			for _, x.Text = range []string{"SKIP", "CASE", "t", "x & SKIP", "PROCESSOR 3", ":"} {
				if isBeginning(l) {
					break required
				}
			}
		}
	}
	return l
}

// P11.3, P11.4: many sequences of rows without a pattern, most of whose rows are allowed where they are; what is behind an error makes no difference.
func TestParseRandomRows(t *testing.T) {
	next := random(14)
	texts := append(strings.Fields("SKIP SEQ PAR ALT IF CASE ELSE : t u v x TRUE $ f()"), "PRI PAR", "PRI ALT", "PLACED PAR", "PROCESSOR 3", "PROCESSOR 8", "SEQ i = 0 FOR n", "ALT i = 1 FOR 2", "IF j = x FOR y",
		"c ? CASE", "CASE x", "WHILE x", "c ? x", "x & c ? x", "x & SKIP", "t ? AFTER x", "t; x", "t; INT", "1, 2", "c ! t; x", "x := 1", "INT x:", "INT y IS x:", "VAL INT y IS 1:", "PROTOCOL p", "PROTOCOL p IS INT:", "PROC f()", "PROC f(INT x)", "x x", "(x)")
	lengths := map[bool]int{}
	for range 3000 {
		var l []api.Row
		for range 1 + next(20) {
			l = extended(next, l, texts)
		}
		if next(4) > 0 {
			l = completed(l)
		}
		lengths[checkRules(t, l)] += len(l)
		row, e := parseByRules(l)
		if e != api.OK && row < len(l) {
			for range 3 {
				other := slices.Clone(l[:row+1])
				for range next(4) {
					other = append(other, api.Row{No: len(other) + 1, Depth: next(other[len(other)-1].Depth + 2), Text: pick(next, texts)})
				}
				checkFailure(t, other, row, e)
			}
		}
	}
	if lengths[true] < 5000 || lengths[false] < 5000 {
		t.Errorf("%v rows: too few to test anything", lengths)
	}
}

// P11.3: rows that are not valid in layer 7, which counts more than anything else.
func TestParseLayout(t *testing.T) {
	good := rows("SEQ/.SKIP/.SKIP")
	for _, change := range []func(l []api.Row){
		func(l []api.Row) { l[0].No = 0 },
		func(l []api.Row) { l[1].No = 1 },
		func(l []api.Row) { l[2].No = 65537 },
		func(l []api.Row) { l[0].Depth = 1 },
		func(l []api.Row) { l[0].Depth = -1 },
		func(l []api.Row) { l[2].Depth = 3 },
		func(l []api.Row) { l[2].Text = "" },
		func(l []api.Row) { l[2].Text = "SKIP " },
		func(l []api.Row) { l[2].Text = " SKIP" },
		func(l []api.Row) { l[2].Text = "x := 1 +" },
		func(l []api.Row) { l[2].Text = "x := 1 -- 2" },
		func(l []api.Row) { l[2].Text = "x := é" },
		func(l []api.Row) { l[2].Text = "x := " + strings.Repeat("1", 252) },
		func(l []api.Row) { l[0].Text, l[2].Text = "$", "x\n" },
	} {
		l := slices.Clone(good)
		change(l)
		if layout.May(l) {
			t.Fatalf("%s is valid in layer 7", shown(l))
		}
		checkFailure(t, l, 0, api.ErrArg)
	}
	checkFailure(t, numbered(slices.Repeat(rows("SKIP"), 2049)), 0, api.ErrArg)
	checkFailure(t, numbered(slices.Repeat(rows("SKIP"), 1000000)), 0, api.ErrArg)
	checkFailure(t, numbered(slices.Repeat(rows(strings.Repeat("x", 256)), 2048)), 0, api.ErrArg)
	checkFailure(t, []api.Row{{No: 1, Text: strings.Repeat("x", 1<<24)}}, 0, api.ErrArg)
	checkFailure(t, nil, 0, api.ErrSyntax)
	checkFailure(t, []api.Row{}, 0, api.ErrSyntax)
	good[0].No, good[1].No, good[2].No = 1, 65535, 65536
	if p, row, e := syntax.Parse(good); e != api.OK || row != 0 || !syntax.Same(p, seq(skip, skip)) {
		t.Errorf("%s, %d, %d", brief(p), row, e)
	}
}

// P11.3: processes that are 32 and 33 deep, 2048 and 2049 processes, and 2048 rows.
func TestParseLimits(t *testing.T) {
	p := skip
	l := rows("SKIP")
	for depth := 1; depth <= 32; depth++ {
		p = seq(p)
		for i := range l {
			l[i].Depth++
		}
		l = numbered(append([]api.Row{{Text: "SEQ"}}, l...))
		checkParse(t, shown(l), p)
		for _, s := range []string{"SEQ", "ALT", "IF", "CASE x", "x := 1"} {
			l[depth].Text = s
			if !checkRules(t, l) {
				t.Errorf("%s at %d is no process", s, depth)
			}
		}
		for _, s := range []string{"WHILE TRUE", "PRI PAR", "SEQ i = 0 FOR 1", "INT x:", "c ? CASE", "PROC f()", "PROTOCOL p"} {
			l[depth].Text = s
			checkFailure(t, l, depth+1, api.ErrSyntax)
			checkFailure(t, append(slices.Clone(l), api.Row{No: depth + 2, Depth: depth - 1, Text: "SKIP"}), depth+1, api.ErrSyntax)
		}
		l[depth].Text = "SKIP"
	}
	checkFailure(t, append(slices.Clone(l), api.Row{No: 34, Depth: 33, Text: "SKIP"}), 0, api.ErrArg)
	l[32].Text = "SEQ"
	checkFailure(t, append(slices.Clone(l), api.Row{No: 34, Depth: 33, Text: "SKIP"}), 0, api.ErrArg)
	for n := 2040; n <= 2050; n++ {
		chain := strings.Repeat("INT x:/", n-1) + "SKIP"
		wide := "SEQ" + strings.Repeat("/.SKIP", n-1)
		bodies := strings.Repeat("PROC f()/.SKIP/:/", (n-1)/3) + "SEQ" + strings.Repeat("/.STOP", (n-1)%3)
		for _, s := range []string{chain, wide, bodies} {
			if n > 2048 {
				checkFailure(t, rows(s), 0, api.ErrArg)
			} else if len(rows(s)) != n || !checkRules(t, rows(s)) {
				t.Errorf("%d rows are no process", n)
			}
		}
		if n <= 2048 {
			p, _, _ := syntax.Parse(rows(chain))
			q, _, _ := syntax.Parse(rows(wide))
			if syntax.Size(p) != n || syntax.Size(q) != n {
				t.Errorf("%d and %d processes, not %d", syntax.Size(p), syntax.Size(q), n)
			}
			checkFailure(t, rows(strings.Repeat("INT x:/", n-1)+"INT x:"), n, api.ErrSyntax)
			checkFailure(t, rows(strings.Repeat("INT x:/", n-1)+"$"), n-1, api.ErrToken)
			checkFailure(t, rows("SEQ"+strings.Repeat("/.SKIP", n-2)+"/SKIP"), n-1, api.ErrSyntax)
		}
	}
}
