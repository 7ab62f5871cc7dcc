package step_test

import (
	"strconv"
	"strings"

	"transputer/api"
	"transputer/expr"
)

// Texts describe kernels, processes and stores here, whether or not they are valid: the lines of a process are separated by
// bars, with a dot in front for each process that they are inside.

func valueKind(s string) api.TypeKind {
	k, ok := map[string]api.TypeKind{"INT": api.TyInt, "BYTE": api.TyByte, "BOOL": api.TyBool}[s]
	if !ok {
		panic("no kind: " + s)
	}
	return k
}

func numeral(s string) int {
	n, e := strconv.Atoi(s)
	if e != nil {
		panic("no number: " + s)
	}
	return n
}

// exprReader reads an expression from the front of a text.
type exprReader struct{ s string }

func (r *exprReader) take(prefix string) bool {
	rest, ok := strings.CutPrefix(r.s, prefix)
	if ok {
		r.s = rest
	}
	return ok
}

func (r *exprReader) number() int {
	n := 0
	for n < len(r.s) && (n == 0 && r.s[n] == '-' || '0' <= r.s[n] && r.s[n] <= '9') {
		n++
	}
	v := numeral(r.s[:n])
	r.s = r.s[n:]
	return v
}

// inside reads an expression, and the bracket behind it.
func (r *exprReader) inside(bracket string) api.KExpr {
	x := r.expr()
	if !r.take(bracket) {
		panic("no " + bracket + ": " + r.s)
	}
	return x
}

func (r *exprReader) operand() api.KExpr {
	switch {
	case r.take("("):
		return r.inside(")")
	case r.take("v"):
		v := r.number()
		if r.take("[") {
			return api.KExpr{Kind: api.KxElem, V: v, L: []api.KExpr{r.inside("]")}}
		}
		return api.KExpr{Kind: api.KxVar, V: v}
	}
	return number(int32(r.number()))
}

func (r *exprReader) expr() api.KExpr {
	for _, word := range []string{"INT", "BYTE", "BOOL"} {
		if r.take(word + " ") {
			return api.KExpr{Kind: api.KxConvert, To: valueKind(word), L: []api.KExpr{r.operand()}}
		}
	}
	for o := api.OperNeg; o <= api.OperNot; o++ {
		if word, _ := expr.Word(o); r.take(word + " ") {
			return api.KExpr{Kind: api.KxMonadic, Oper: o, L: []api.KExpr{r.operand()}}
		}
	}
	left := r.operand()
	for o := api.OperAdd; o <= api.OperAfter; o++ {
		if word, _ := expr.Word(o); r.take(" " + word + " ") {
			return api.KExpr{Kind: api.KxDyadic, Oper: o, L: []api.KExpr{left, r.operand()}}
		}
	}
	return left
}

func number(n int32) api.KExpr { return api.KExpr{Kind: api.KxNumber, N: n} }

// kexpr returns the expression that a text is.
func kexpr(s string) api.KExpr {
	r := &exprReader{s}
	x := r.expr()
	if r.s != "" {
		panic("not an expression: " + s)
	}
	return x
}

func kplace(s string) api.KPlace {
	x := kexpr(s)
	if x.Kind != api.KxVar && x.Kind != api.KxElem {
		panic("not a place: " + s)
	}
	return api.KPlace{V: x.V, Index: x.L}
}

func list[T any](s string, one func(string) T) (l []T) {
	for x := range strings.SplitSeq(s, ", ") {
		l = append(l, one(x))
	}
	return l
}

var plainHeads = map[string]api.KProcKind{"skip": api.KpSkip, "stop": api.KpStop, "seq": api.KpSeq, "par": api.KpPar, "pri par": api.KpPriPar, "if": api.KpIf, "alt": api.KpAlt, "pri alt": api.KpPriAlt, "wait": api.KpWait}

// headOf returns the process that a line begins, without those inside.
func headOf(s string) api.KProc {
	if k, ok := plainHeads[s]; ok {
		return api.KProc{Kind: k}
	}
	word, rest, _ := strings.Cut(s, " ")
	switch word {
	case "clear":
		return api.KProc{Kind: api.KpClear, V: kplace(rest).V}
	case "time":
		return api.KProc{Kind: api.KpTime, To: []api.KPlace{kplace(rest)}}
	case "after":
		return api.KProc{Kind: api.KpAfter, E: []api.KExpr{kexpr(rest)}}
	case "while":
		return api.KProc{Kind: api.KpWhile, E: []api.KExpr{kexpr(rest)}}
	}
	if to, values, ok := strings.Cut(s, " := "); ok {
		return api.KProc{Kind: api.KpAssign, To: list(to, kplace), E: list(values, kexpr)}
	}
	part := strings.SplitN(s, " ", 4)
	p := api.KProc{C: numeral(part[0][1:]), Item: valueKind(part[2])}
	if part[1] == "?" {
		p.Kind, p.To = api.KpIn, []api.KPlace{kplace(part[3])}
	} else {
		p.Kind, p.E = api.KpOut, []api.KExpr{kexpr(part[3])}
	}
	return p
}

func guardOf(s string) api.KGuard {
	cond, rest, ok := strings.Cut(s, " & ")
	g := api.KGuard{Kind: api.GuIf, Cond: kexpr(cond)}
	switch {
	case !ok:
	case rest == "skip":
		g.Kind = api.GuSkip
	case strings.HasPrefix(rest, "after "):
		g.Kind, g.Time = api.GuAfter, kexpr(rest[len("after "):])
	default:
		in := headOf(rest)
		g.Kind, g.C, g.Item, g.To = api.GuInput, in.C, in.Item, in.To[0]
	}
	return g
}

func hasGuards(k api.KProcKind) bool {
	return k == api.KpIf || k == api.KpAlt || k == api.KpPriAlt || k == api.KpWait
}

// lineReader reads the lines of a process.
type lineReader struct{ lines []string }

// at takes the next line if it has so many dots in front.
func (r *lineReader) at(depth int) (s string, ok bool) {
	if len(r.lines) == 0 {
		return "", false
	}
	s = strings.TrimLeft(r.lines[0], ".")
	if len(r.lines[0])-len(s) != depth {
		return "", false
	}
	r.lines = r.lines[1:]
	return s, true
}

func (r *lineReader) procs(depth int) (l []api.KProc) {
	for s, ok := r.at(depth); ok; s, ok = r.at(depth) {
		p := headOf(s)
		if hasGuards(p.Kind) {
			for g, ok := r.at(depth + 1); ok; g, ok = r.at(depth + 1) {
				guard := guardOf(g)
				guard.Body = r.procs(depth + 2)
				p.Guards = append(p.Guards, guard)
			}
		} else {
			p.L = r.procs(depth + 1)
		}
		l = append(l, p)
	}
	return l
}

// kproc returns the process that a text is.
func kproc(s string) api.KProc {
	r := &lineReader{strings.Split(s, "|")}
	l := r.procs(0)
	if len(l) != 1 || len(r.lines) > 0 {
		panic("not a process: " + s)
	}
	return l[0]
}

// kernelOf returns a kernel with variables of these types, as in "INT [3]BOOL", so many channels, and the process that a text is.
func kernelOf(types string, chans int, s string) api.Kernel {
	k := api.Kernel{Root: kproc(s)}
	for x := range strings.FieldsSeq(types) {
		v := api.Var{}
		if dim, word, ok := strings.Cut(x, "]"); ok {
			v.Dim, x = numeral(dim[1:]), word
		}
		v.Kind = valueKind(x)
		k.Vars = append(k.Vars, v)
	}
	for i := range chans {
		k.Chans = append(k.Chans, []api.HostKind{api.HostIn, api.HostOut, api.Inside}[min(i, 2)])
	}
	return k
}

func words(s string) (l []int32) {
	for n := range strings.FieldsSeq(s) {
		l = append(l, int32(numeral(n)))
	}
	return l
}

// storeOf returns the store with the lists of a text, as in "7; 1 2 3".
func storeOf(s string) (l [][]int32) {
	if s == "" {
		return nil
	}
	for x := range strings.SplitSeq(s, ";") {
		l = append(l, words(x))
	}
	return l
}
