package syntax_test

import (
	"reflect"
	"slices"
	"testing"

	"transputer/api"
	"transputer/layout"
	"transputer/syntax"
)

// piece is the memory of a slice, with what is behind its length.
type piece struct{ begin, end uintptr }

// pieces returns the memory of all slices in a value.
func pieces(v reflect.Value) (l []piece) {
	switch v.Kind() {
	case reflect.Struct:
		for i := range v.NumField() {
			l = append(l, pieces(v.Field(i))...)
		}
	case reflect.Slice:
		if v.Cap() > 0 {
			l = append(l, piece{v.Pointer(), v.Pointer() + uintptr(v.Cap())*v.Type().Elem().Size()})
		}
		for i := range v.Len() {
			l = append(l, pieces(v.Index(i))...)
		}
	}
	return l
}

// overlap tells whether two of the pieces share memory.
func overlap(l []piece) bool {
	slices.SortFunc(l, func(a, b piece) int {
		if a.begin < b.begin {
			return -1
		}
		return 1
	})
	for i := range l[:max(0, len(l)-1)] {
		if l[i].end > l[i+1].begin {
			return true
		}
	}
	return false
}

// cleared sets all that is in the slices of a value to zero.
func cleared(v reflect.Value) {
	switch v.Kind() {
	case reflect.Struct:
		for i := range v.NumField() {
			cleared(v.Field(i))
		}
	case reflect.Slice:
		for i := range v.Len() {
			cleared(v.Index(i))
			v.Index(i).SetZero()
		}
	}
}

// P11.3, R6: the rows are unchanged, no two slices of what Parse returns share memory, and changing it changes nothing else.
func TestParseMemory(t *testing.T) {
	for _, c := range samples() {
		l := append(rows(c.s), api.Row{No: -7, Depth: 99, Text: "\n"})
		was := slices.Clone(l)
		p, _, _ := syntax.Parse(l[:len(l)-1])
		if overlap(append(pieces(reflect.ValueOf(p)), pieces(reflect.ValueOf(l))...)) {
			t.Errorf("slices of Parse(%s) share memory", c.s)
		}
		q, _, _ := syntax.Parse(l[:len(l)-1])
		if overlap(append(pieces(reflect.ValueOf(p)), pieces(reflect.ValueOf(q))...)) {
			t.Errorf("Parse(%s) shares memory with the next call", c.s)
		}
		cleared(reflect.ValueOf(&p).Elem())
		if !slices.Equal(l, was) || !syntax.Same(q, c.p) {
			t.Errorf("%s has been changed", c.s)
		}
		checkParse(t, c.s, c.p)
	}
}

// P11.1, R6: May, Size and Same leave their arguments as they are.
func TestArguments(t *testing.T) {
	for _, p := range procs(everything(1), samples()[3].p, placed(seq(skip))) {
		a, b := copied(p), copied(p)
		syntax.May(a)
		syntax.Size(a)
		syntax.Same(a, b)
		syntax.Print(a)
		if !reflect.DeepEqual(a, p) || !reflect.DeepEqual(b, p) {
			t.Errorf("%s has been changed", brief(p))
		}
	}
}

// P11.3: expressions in parentheses are the same expressions.
func TestParseParentheses(t *testing.T) {
	next := random(15)
	for range 3000 {
		p := anyProcess(next, 1+next(5), true)
		w := &writer{write: func(x api.Expr) string { return "((" + text(x) + "))" }}
		w.process(p, 0)
		if !layout.May(w.rows) {
			continue
		}
		if q, row, e := syntax.Parse(w.rows); e != api.OK || row != 0 || !syntax.Same(p, q) {
			t.Errorf("Parse(%s) = %s, %d, %d", shown(w.rows), brief(q), row, e)
		}
	}
}

// P11.3, P11.4: a row without tokens at each place is an error of layer 8 there, whatever is behind it and however deep it is.
func TestParseNoTokens(t *testing.T) {
	for _, c := range samples() {
		l := rows(c.s)
		for i := range l {
			for _, s := range []string{"$", "x := 1x", "x x $", "SKIP '", ": 99999999999"} {
				bad := slices.Clone(l)
				bad[i].Text = s
				checkFailure(t, bad, i, api.ErrToken)
				checkFailure(t, bad[:i+1], i, api.ErrToken)
				if i > 0 {
					bad[i].Depth = bad[i-1].Depth + 1
					checkFailure(t, bad[:i+1], i, api.ErrToken)
					bad[i].Depth = 0
					checkFailure(t, bad[:i+1], i, api.ErrToken)
				}
			}
		}
		checkFailure(t, append(slices.Clone(l), api.Row{No: len(l) + 1, Depth: l[len(l)-1].Depth + min(1, len(l)-1), Text: "x := $"}), len(l), api.ErrToken)
	}
}

// P11.3: the rows of a source text.
func TestParseSource(t *testing.T) {
	src := "-- a buffer\nPROC buffer(CHAN OF INT in,\n    CHAN OF INT out)\n  INT x:\n\n  WHILE TRUE\n    SEQ\n      in ? x\n      out ! x\n:\nCHAN OF INT c:\nPAR\n  buffer(from.host, c)\n  buffer(c, to.host)\n"
	l, _, e := layout.Rows(src)
	if e != api.OK {
		t.Fatal(e)
	}
	p, row, e := syntax.Parse(l)
	if e != api.OK || row != 0 || syntax.Size(p) != 10 {
		t.Fatalf("%s, %d, %d", brief(p), row, e)
	}
	checkPrint(t, p, rows("PROC buffer(CHAN OF INT in, CHAN OF INT out)/.INT x:/.WHILE TRUE/..SEQ/...in ? x/...out ! x/:/CHAN OF INT c:/PAR/.buffer(from.host, c)/.buffer(c, to.host)"))
}
