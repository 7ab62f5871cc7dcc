package kernel_test

import (
	"fmt"
	"slices"
	"strings"

	"transputer/api"
	"transputer/types"
)

// random returns numbers in a fixed order without a pattern.
func random(seed uint32) func(n int) int {
	return func(n int) int {
		seed = seed*1664525 + 1013904223
		return int(seed>>9) % n
	}
}

func pick[T any](next func(int) int, l []T) T { return l[next(len(l))] }

// entry is a name that may be used.
type entry struct {
	name    string
	t       api.Type
	val     bool // it is no target
	number  bool // it stands for a number
	base    int  // the variable behind it
	proto   api.Proto
	protoAt int // which PROTOCOL that is
	formals []entry
}

// visible are the names that may be used, one for each that is in scope.
type visible []entry

func (l visible) with(x entry) visible {
	return append(slices.DeleteFunc(slices.Clone(l), func(y entry) bool { return y.name == x.name }), x)
}

func (l visible) without(hidden func(x entry) bool) visible {
	return slices.DeleteFunc(slices.Clone(l), hidden)
}

// writer writes random programs without errors, unless, so many times in a thousand, something stands where there should be something else.
type writer struct {
	next   func(int) int
	errors int
	bases  int
	high   bool // where there should be no PRI PAR
}

func (w *writer) errs() bool { return w.next(1000) < w.errors }

func (w *writer) name() string {
	return pick(w.next, []string{"a", "b", "c", "d", "e", "f", "g", "h", "i", "j", "k", "m", "n", "n1", "n2", "n3", "p", "q", "tag", "end", "x.y"})
}

func (w *writer) some(l visible, is func(x entry) bool) (entry, bool) {
	var all visible
	for _, x := range l {
		if is(x) {
			all = append(all, x)
		}
	}
	if len(all) == 0 {
		return entry{}, false
	}
	return pick(w.next, all), true
}

func isValueType(k api.TypeKind) func(x entry) bool {
	return func(x entry) bool { return x.t.Kind == k && x.formals == nil }
}

// element returns the text of a value of a kind that a name gives, or nothing.
func (w *writer) element(x entry, l visible, depth int) string {
	if x.t.Dim == 0 {
		return x.name
	}
	return x.name + "[" + w.expr(api.TyInt, l, depth-1) + "]"
}

var literals = map[api.TypeKind][]string{api.TyInt: {"0", "1", "2", "3", "7", "16", "#7FFFFFFF", "#80000000"}, api.TyByte: {"'a'", "'b'", "'*#00'"}, api.TyBool: {"TRUE", "FALSE"}}

var trees = map[api.TypeKind][]string{
	api.TyInt:  {"(I + I)", "(I - I)", "(I * I)", "(I / I)", "(I PLUS I)", "(I /\\ I)", "(I << I)", "(- I)", "(~ I)", "(SIZE V)", "(INT Y)", "(INT L)", "(INT I)", "(MINUS I)"},
	api.TyByte: {"(BYTE I)", "(BYTE L)", "(BYTE Y)"},
	api.TyBool: {"(I = I)", "(Y <> Y)", "(L = L)", "(I < I)", "(Y >= Y)", "(L AND L)", "(L OR L)", "(NOT L)", "(I AFTER I)", "(BOOL I)", "(BOOL L)"},
}

// expr returns the text of an expression that may be an operand.
func (w *writer) expr(k api.TypeKind, l visible, depth int) string {
	if depth > 0 && w.next(2) == 0 {
		return w.filled(pick(w.next, trees[k]), l, depth-1)
	}
	if x, ok := w.some(l, isValueType(k)); ok && depth >= 0 && w.next(4) > 0 {
		return w.element(x, l, depth)
	}
	return pick(w.next, literals[k])
}

// filled puts expressions in the places of I, Y and L that stand by themselves, and the name of an array in that of V.
func (w *writer) filled(s string, l visible, depth int) string {
	words := strings.Fields(strings.NewReplacer("(", "( ", ")", " )").Replace(s))
	for i, word := range words {
		switch word {
		case "I":
			words[i] = w.expr(api.TyInt, l, depth)
		case "Y":
			words[i] = w.expr(api.TyByte, l, depth)
		case "L":
			words[i] = w.expr(api.TyBool, l, depth)
		case "V":
			x, ok := w.some(l, func(x entry) bool { return x.t.Dim > 0 && x.formals == nil })
			if !ok {
				return "7"
			}
			words[i] = x.name
		}
	}
	return strings.Join(words, " ")
}

// constant returns the text of an expression of the type INT that has a value.
func (w *writer) constant(l visible) string {
	if w.errs() {
		return pick(w.next, []string{"(1 / 0)", w.expr(api.TyInt, l, 2)})
	}
	x, ok := w.some(l, func(x entry) bool { return x.number && x.t.Kind == api.TyInt && x.t.Dim == 0 })
	n := pick(w.next, []string{"0", "1", "2", "3"})
	switch {
	case ok && w.next(2) == 0:
		return x.name
	case ok && w.next(3) == 0:
		return "(" + x.name + " PLUS " + n + ")"
	}
	return n
}

// count returns the text of a number of repetitions.
func (w *writer) count(l visible) string {
	if w.errs() {
		return pick(w.next, []string{"17", "(- 1)", "(1 / 0)", "(0 / 0)", w.expr(api.TyInt, l, 1)})
	}
	return pick(w.next, []string{"0", "1", "2", "2", "3", "4", "(1 + 1)"})
}

// target returns the text of a target of a kind, and the name in front of it.
func (w *writer) target(k api.TypeKind, l visible) (string, entry) {
	x, ok := w.some(l, func(x entry) bool { return isValueType(k)(x) && !x.val })
	if !ok {
		return "", x
	}
	return w.element(x, l, 2), x
}

// targets returns the texts of different targets of these kinds, or nothing.
func (w *writer) targets(kinds []api.TypeKind, l visible) (texts []string) {
	for _, k := range kinds {
		s, x := w.target(k, l)
		if s == "" {
			return nil
		}
		texts = append(texts, s)
		if !w.errs() {
			l = l.without(func(y entry) bool { return y.base == x.base && !y.val })
		}
	}
	return texts
}

func (w *writer) kind() api.TypeKind { return pick(w.next, values) }

func (w *writer) channel(l visible, is func(x entry) bool) (string, entry) {
	x, ok := w.some(l, func(x entry) bool { return x.t.Kind == api.TyChan && is(x) })
	if !ok {
		return "", x
	}
	if x.t.Dim == 0 {
		return x.name, x
	}
	if w.errs() {
		return x.name + "[" + w.expr(api.TyInt, l, 2) + "]", x
	}
	return x.name + "[" + fmt.Sprint(w.next(x.t.Dim)) + "]", x
}

func hasVariants(x entry) bool { return x.proto.Cases }
func hasItems(x entry) bool    { return !x.proto.Cases }

// anyOf tells which channels may be used to get something, or to send it.
func (w *writer) anyOf(host string, is func(x entry) bool) func(x entry) bool {
	return func(x entry) bool { return is(x) && (x.base != hostBase(host) || w.errs()) }
}

func hostBase(name string) int { return map[string]int{api.FromHost: -1, api.ToHost: -2}[name] }

func indented(rows []string, n int) []string {
	l := slices.Clone(rows)
	for i := range l {
		l[i] = strings.Repeat(".", n) + l[i]
	}
	return l
}

// leaf returns the row of a process without others inside.
func (w *writer) leaf(l visible) string {
	switch w.next(8) {
	case 0:
		return pick(w.next, []string{"SKIP", "STOP"})
	case 1, 2:
		var kinds []api.TypeKind
		var exprs []string
		for range 1 + w.next(3) {
			kinds = append(kinds, w.kind())
			exprs = append(exprs, w.expr(kinds[len(kinds)-1], l, 2))
		}
		if to := w.targets(kinds, l); to != nil {
			return strings.Join(to, ", ") + " := " + strings.Join(exprs, ", ")
		}
	case 3:
		if c, x := w.channel(l, w.anyOf(api.ToHost, hasItems)); c != "" {
			if to := w.targets(x.proto.L[0].Items, l); to != nil {
				return c + " ? " + strings.Join(to, "; ")
			}
		}
	case 4, 5:
		if c, x := w.channel(l, w.anyOf(api.FromHost, func(entry) bool { return true })); c != "" {
			v := pick(w.next, x.proto.L)
			var sent []string
			if v.Tag != "" {
				sent = append(sent, v.Tag)
			}
			for _, k := range v.Items {
				sent = append(sent, w.expr(k, l, 2))
			}
			return c + " ! " + strings.Join(sent, "; ")
		}
	case 6:
		if x, ok := w.some(l, isValueType(api.TyTimer)); ok {
			if to := w.targets([]api.TypeKind{api.TyInt}, l); to != nil && w.next(2) == 0 {
				return x.name + " ? " + to[0]
			}
			return x.name + " ? AFTER " + w.expr(api.TyInt, l, 2)
		}
	}
	return w.call(l)
}

// call returns the row of an instance, if there is a PROC.
func (w *writer) call(l visible) string {
	p, ok := w.some(l, func(x entry) bool { return x.formals != nil })
	if !ok {
		return "to.host ! " + w.expr(api.TyInt, l, 2)
	}
	actuals := make([]string, len(p.formals))
	rest := l
	for i, f := range p.formals {
		if f.val {
			continue
		}
		x, ok := w.some(rest, func(x entry) bool {
			fits := x.t.Kind == f.t.Kind && x.protoAt == f.protoAt && x.t.Item == f.t.Item && !x.val && x.formals == nil
			return fits && (x.t.Dim == f.t.Dim || f.t.Dim == 0)
		})
		if !ok {
			return "SKIP"
		}
		actuals[i] = x.name
		if x.t.Dim > 0 && f.t.Dim == 0 && x.t.Kind == api.TyChan {
			actuals[i] = x.name + "[" + fmt.Sprint(w.next(x.t.Dim)) + "]"
		} else if x.t.Dim > 0 && f.t.Dim == 0 {
			actuals[i] = w.element(x, l, 2)
		}
		rest = rest.without(func(y entry) bool { return y.base == x.base && !y.val })
	}
	for i, f := range p.formals {
		if f.val {
			actuals[i] = w.expr(f.t.Kind, rest, 2)
		}
	}
	return p.name + "(" + strings.Join(actuals, ", ") + ")"
}

// guard returns the rows of a guard of an ALT.
func (w *writer) guard(l visible, depth int) []string {
	cond := w.expr(api.TyBool, l, 2)
	row := cond + " & SKIP"
	front := pick(w.next, []string{"", cond + " & "})
	switch w.next(3) {
	case 0:
		if c, x := w.channel(l, w.anyOf(api.ToHost, hasItems)); c != "" {
			if to := w.targets(x.proto.L[0].Items, l); to != nil {
				row = front + c + " ? " + strings.Join(to, "; ")
			}
		}
	case 1:
		if x, ok := w.some(l, isValueType(api.TyTimer)); ok {
			row = front + x.name + " ? AFTER " + w.expr(api.TyInt, l, 2)
		}
	}
	return append([]string{row}, indented(w.rows(l, depth-1), 1)...)
}

// replicator returns the text of a replicator, and the names inside; constant says that it must have constants.
func (w *writer) replicator(l visible, constant bool) (string, visible) {
	x := entry{name: w.name(), t: api.Type{Kind: api.TyInt}, val: true, number: constant}
	base, count := w.constant(l), w.count(l)
	if !constant {
		base, count = w.expr(api.TyInt, l, 2), pick(w.next, []string{"17", w.expr(api.TyInt, l, 2)})
	}
	return " " + x.name + " = " + base + " FOR " + count, l.with(x)
}

// several returns the rows of a process with others inside.
func (w *writer) several(l visible, depth int) []string {
	word := pick(w.next, []string{"SEQ", "SEQ", "PAR", "IF", "ALT", "PRI ALT", "WHILE", "CASE", "PRI PAR", "IN"})
	inner, rep, n := l, "", w.next(4)
	switch word {
	case "WHILE":
		return append([]string{"WHILE " + w.expr(api.TyBool, l, 2)}, indented(w.rows(l, depth-1), 1)...)
	case "CASE":
		return w.options(l, depth)
	case "PRI PAR":
		return w.priPar(l, depth)
	case "IN":
		return w.variants(l, depth)
	}
	if w.next(3) == 0 {
		rep, inner = w.replicator(l, word != "SEQ" || w.next(2) == 0)
		n = 1
	}
	rows := []string{word + rep}
	for range n {
		switch word {
		case "SEQ", "PAR":
			rows = append(rows, indented(w.rows(inner, depth-1), 1)...)
		case "IF":
			rows = append(rows, "."+w.expr(api.TyBool, inner, 2))
			rows = append(rows, indented(w.rows(inner, depth-1), 2)...)
		default:
			rows = append(rows, indented(w.guard(inner, depth), 1)...)
		}
	}
	return rows
}

func (w *writer) priPar(l visible, depth int) []string {
	was := w.high
	if was && !w.errs() {
		return []string{"SKIP"}
	}
	w.high = true
	rows := append([]string{"PRI PAR"}, indented(w.rows(l, depth-1), 1)...)
	w.high = was
	return append(rows, indented(w.rows(l, depth-1), 1)...)
}

func (w *writer) options(l visible, depth int) []string {
	k := pick(w.next, []api.TypeKind{api.TyInt, api.TyByte})
	rows := []string{"CASE " + w.expr(k, l, 2)}
	last := w.next(6)
	for i := range w.next(5) {
		row := "ELSE"
		if i != last {
			row = fmt.Sprint(i * 3)
			if w.next(2) == 0 {
				row = fmt.Sprintf("%d, (%d + %d), %d", i*3+2, i, i*2+1, i*3)
			}
			if k == api.TyByte {
				row = pick(w.next, []string{"'a', ", ""}) + "(BYTE " + fmt.Sprint(i) + ")"
			}
			if w.errs() {
				row = pick(w.next, []string{row + ", " + row, w.expr(k, l, 2)})
			}
		}
		rows = append(rows, "."+row)
		rows = append(rows, indented(w.rows(l, depth-1), 2)...)
	}
	return rows
}

func (w *writer) variants(l visible, depth int) []string {
	c, x := w.channel(l, hasVariants)
	if c == "" {
		return []string{"SKIP"}
	}
	rows := []string{c + " ? CASE"}
	for i := range x.proto.L {
		v := x.proto.L[len(x.proto.L)-1-i]
		to := w.targets(v.Items, l)
		if len(to) < len(v.Items) || w.next(3) == 0 {
			continue
		}
		rows = append(rows, "."+strings.Join(append([]string{v.Tag}, to...), "; "))
		rows = append(rows, indented(w.rows(l, depth-1), 2)...)
	}
	if len(rows) == 1 {
		return []string{"SKIP"}
	}
	return rows
}

func typeText(t api.Type) string {
	l, e := types.Tokens(t)
	if e != api.OK {
		panic(t)
	}
	s := ""
	for _, x := range l {
		s += " " + x.Text
		if x.Text == "" {
			s += fmt.Sprint(x.N)
		}
	}
	return strings.TrimSpace(s)
}
