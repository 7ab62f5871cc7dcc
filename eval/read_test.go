package eval_test

import (
	"fmt"
	"strconv"
	"strings"

	"transputer/api"
	"transputer/expr"
)

// Texts describe variables, stores and expressions here, whether or not they are valid.

var typeWords = map[string]api.TypeKind{"INT": api.TyInt, "BYTE": api.TyByte, "BOOL": api.TyBool}

func numeral(s string) int {
	n, e := strconv.Atoi(s)
	if e != nil {
		panic("no number: " + s)
	}
	return n
}

// kernelOf returns a kernel with variables as in "INT [3]BOOL".
func kernelOf(s string) api.Kernel {
	k := api.Kernel{Chans: []api.HostKind{api.HostIn, api.HostOut, api.Inside}, Root: api.KProc{Kind: api.KpSkip}}
	for x := range strings.FieldsSeq(s) {
		v := api.Var{}
		if dim, word, ok := strings.Cut(x, "]"); ok {
			v.Dim = numeral(dim[1:])
			x = word
		}
		v.Kind = typeWords[x]
		k.Vars = append(k.Vars, v)
	}
	return k
}

// storeOf returns the store with the lists of a text, as in "7; 1 2 3;; 0", where the third list is empty.
func storeOf(s string) (l [][]int32) {
	if s == "" {
		return nil
	}
	for x := range strings.SplitSeq(s, ";") {
		var numbers []int32
		for n := range strings.FieldsSeq(x) {
			numbers = append(numbers, int32(numeral(n)))
		}
		l = append(l, numbers)
	}
	return l
}

// reader reads an expression from the front of a text.
type reader struct{ s string }

func (r *reader) take(prefix string) bool {
	rest, ok := strings.CutPrefix(r.s, prefix)
	if ok {
		r.s = rest
	}
	return ok
}

func (r *reader) number() int {
	n := 0
	for n < len(r.s) && (n == 0 && r.s[n] == '-' || '0' <= r.s[n] && r.s[n] <= '9') {
		n++
	}
	v := numeral(r.s[:n])
	r.s = r.s[n:]
	return v
}

// inside reads an expression, and the bracket behind it.
func (r *reader) inside(bracket string) api.KExpr {
	x := r.expr()
	if !r.take(bracket) {
		panic("no " + bracket + ": " + r.s)
	}
	return x
}

func (r *reader) operand() api.KExpr {
	switch {
	case r.take("("):
		return r.inside(")")
	case r.take("v"):
		v := r.number()
		if r.take("[") {
			return elem(v, r.inside("]"))
		}
		return variable(v)
	}
	return number(int32(r.number()))
}

func (r *reader) expr() api.KExpr {
	for word, k := range typeWords {
		if r.take(word + " ") {
			return convert(k, r.operand())
		}
	}
	for o := api.OperNeg; o <= api.OperNot; o++ {
		if word, _ := expr.Word(o); r.take(word + " ") {
			return unary(o, r.operand())
		}
	}
	left := r.operand()
	for o := api.OperAdd; o <= api.OperAfter; o++ {
		if word, _ := expr.Word(o); r.take(" " + word + " ") {
			return binary(o, left, r.operand())
		}
	}
	return left
}

// kexpr returns the expression that a text is, as in "v1[v0 - 5]"; an operand with an operator is in parentheses, and the
// operators in front of an operand have a space behind them.
func kexpr(s string) api.KExpr {
	r := &reader{s}
	x := r.expr()
	if r.s != "" {
		panic("not an expression: " + s)
	}
	return x
}

func number(n int32) api.KExpr { return api.KExpr{Kind: api.KxNumber, N: n} }

func variable(v int) api.KExpr { return api.KExpr{Kind: api.KxVar, V: v} }

func elem(v int, x api.KExpr) api.KExpr {
	return api.KExpr{Kind: api.KxElem, V: v, L: []api.KExpr{x}}
}

func unary(o api.Operator, x api.KExpr) api.KExpr {
	return api.KExpr{Kind: api.KxMonadic, Oper: o, L: []api.KExpr{x}}
}

func binary(o api.Operator, x, y api.KExpr) api.KExpr {
	return api.KExpr{Kind: api.KxDyadic, Oper: o, L: []api.KExpr{x, y}}
}

func convert(k api.TypeKind, x api.KExpr) api.KExpr {
	return api.KExpr{Kind: api.KxConvert, To: k, L: []api.KExpr{x}}
}

// brief returns the beginning of how a value is written.
func brief(x any) string { return fmt.Sprintf("%.500s", fmt.Sprint(x)) }
