package expr_test

import (
	"math"
	"slices"
	"strings"
	"testing"

	"transputer/api"
	"transputer/expr"
	"transputer/lex"
)

// token returns the token of a word: a reserved word, a symbol, or else a name.
func token(word string) api.Token {
	switch {
	case slices.Contains(reserved, word):
		return api.Token{Kind: api.TokKey, Text: word}
	case nameForm.MatchString(word):
		return api.Token{Kind: api.TokName, Text: word}
	}
	return api.Token{Kind: api.TokSym, Text: word}
}

func num(n int32) api.Token { return api.Token{Kind: api.TokNumber, N: n} }

func chr(n int32) api.Token { return api.Token{Kind: api.TokByte, N: n} }

// list returns tokens, each given as a token, a list of tokens, a number, or words with spaces between them.
func list(parts ...any) (l []api.Token) {
	for _, p := range parts {
		switch x := p.(type) {
		case api.Token:
			l = append(l, x)
		case []api.Token:
			l = append(l, x...)
		case int:
			l = append(l, num(int32(x)))
		case string:
			for _, word := range strings.Fields(x) {
				l = append(l, token(word))
			}
		}
	}
	return l
}

// inside returns tokens in so many pairs of parentheses.
func inside(pairs int, l []api.Token) []api.Token {
	return list(slices.Repeat(list("("), pairs), l, slices.Repeat(list(")"), pairs))
}

// operandByRules returns the tokens of an operand, and with more pairs of parentheses than it needs if more asks for them.
func operandByRules(x api.Expr, more func() int) []api.Token {
	pairs := 0
	if x.Kind == api.ExMonadic || x.Kind == api.ExDyadic || x.Kind == api.ExConvert || x.Kind == api.ExSize {
		pairs = 1
	}
	return inside(pairs+more(), tokensByRules(x, more))
}

// tokensByRules returns the tokens of a valid expression, with more parentheses around operands and indices.
func tokensByRules(x api.Expr, more func() int) []api.Token {
	switch x.Kind {
	case api.ExNumber:
		return list(num(x.N))
	case api.ExByte:
		return list(chr(x.N))
	case api.ExBool:
		return list([]string{"FALSE", "TRUE"}[x.N])
	case api.ExName:
		return list(x.S)
	case api.ExIndex:
		return list(x.S, "[", inside(more(), tokensByRules(x.L[0], more)), "]")
	case api.ExMonadic:
		return list(monadic[x.Oper-23], operandByRules(x.L[0], more))
	case api.ExDyadic:
		return list(operandByRules(x.L[0], more), dyadic[x.Oper-1], operandByRules(x.L[1], more))
	case api.ExConvert:
		return list([]string{"INT", "BYTE", "BOOL"}[x.To-1], operandByRules(x.L[0], more))
	}
	return list("SIZE", x.S)
}

func noMore() int { return 0 }

func checkTokens(t *testing.T, x api.Expr, want []api.Token) {
	t.Helper()
	l, e := expr.Tokens(x)
	if !slices.Equal(l, want) || e != api.OK {
		t.Errorf("Tokens(%s) = %s, %d, want %s", brief(x), brief(l), e, brief(want))
	}
}

// P10.2: the tokens of every kind, as they are written in the chapter.
func TestTokensTable(t *testing.T) {
	a, b, v := named("a"), named("b"), index("v", named("i"))
	for _, c := range []struct {
		x    api.Expr
		want []api.Token
	}{
		{number(0), list(0)},
		{number(-1), list(-1)},
		{number(math.MinInt32), list(math.MinInt32)},
		{number(math.MaxInt32), list(math.MaxInt32)},
		{char(0), list(chr(0))},
		{char(255), list(chr(255))},
		{truth(0), []api.Token{{Kind: api.TokKey, Text: "FALSE"}}},
		{truth(1), []api.Token{{Kind: api.TokKey, Text: "TRUE"}}},
		{named("size"), []api.Token{{Kind: api.TokName, Text: "size"}}},
		{size("v"), []api.Token{{Kind: api.TokKey, Text: "SIZE"}, {Kind: api.TokName, Text: "v"}}},
		{v, []api.Token{{Kind: api.TokName, Text: "v"}, {Kind: api.TokSym, Text: "["}, {Kind: api.TokName, Text: "i"}, {Kind: api.TokSym, Text: "]"}}},
		{one(api.OperNeg, number(1)), []api.Token{{Kind: api.TokSym, Text: "-"}, {Kind: api.TokNumber, N: 1}}},
		{one(api.OperModNeg, number(1)), []api.Token{{Kind: api.TokKey, Text: "MINUS"}, {Kind: api.TokNumber, N: 1}}},
		{one(api.OperBitNot, a), []api.Token{{Kind: api.TokSym, Text: "~"}, {Kind: api.TokName, Text: "a"}}},
		{one(api.OperNot, a), []api.Token{{Kind: api.TokKey, Text: "NOT"}, {Kind: api.TokName, Text: "a"}}},
		{two(a, api.OperAfter, b), []api.Token{{Kind: api.TokName, Text: "a"}, {Kind: api.TokKey, Text: "AFTER"}, {Kind: api.TokName, Text: "b"}}},
		{two(a, api.OperBitXor, char('x')), []api.Token{{Kind: api.TokName, Text: "a"}, {Kind: api.TokSym, Text: "><"}, {Kind: api.TokByte, N: 'x'}}},
		{convert(api.TyInt, a), []api.Token{{Kind: api.TokKey, Text: "INT"}, {Kind: api.TokName, Text: "a"}}},
		{convert(api.TyByte, a), list("BYTE a")},
		{convert(api.TyBool, a), list("BOOL a")},
		{two(two(a, api.OperAdd, number(1)), api.OperMul, v), list("( a +", 1, ") * v [ i ]")},
		{two(v, api.OperSub, two(a, api.OperSub, b)), list("v [ i ] - ( a - b )")},
		{two(two(a, api.OperSub, b), api.OperSub, v), list("( a - b ) - v [ i ]")},
		{two(size("v"), api.OperSub, size("w")), list("( SIZE v ) - ( SIZE w )")},
		{two(one(api.OperNeg, a), api.OperMinus, one(api.OperModNeg, b)), list("( - a ) MINUS ( MINUS b )")},
		{two(convert(api.TyInt, a), api.OperLe, truth(1)), list("( INT a ) <= TRUE")},
		{one(api.OperNot, one(api.OperNot, a)), list("NOT ( NOT a )")},
		{one(api.OperNeg, size("v")), list("- ( SIZE v )")},
		{convert(api.TyInt, convert(api.TyByte, a)), list("INT ( BYTE a )")},
		{convert(api.TyByte, size("v")), list("BYTE ( SIZE v )")},
		{index("v", size("v")), list("v [ SIZE v ]")},
		{index("v", two(index("v", number(-1)), api.OperPlus, number(1))), list("v [ v [", -1, "] PLUS", 1, "]")},
		{index("v", one(api.OperNeg, number(1))), list("v [ -", 1, "]")},
		{index("v", convert(api.TyInt, number(1))), list("v [ INT", 1, "]")},
	} {
		checkTokens(t, c.x, c.want)
	}
}

// P10.2: every operator in its place, and parentheses around operands of the four kinds that need them, and of no other.
func TestOperands(t *testing.T) {
	a := named("a")
	for o := range 22 {
		checkTokens(t, two(a, api.OperAdd+api.Operator(o), number(1)), list("a", dyadic[o], 1))
	}
	for o := range 4 {
		checkTokens(t, one(api.OperNeg+api.Operator(o), a), list(monadic[o], "a"))
	}
	for _, c := range []struct {
		x       api.Expr
		tokens  []api.Token
		without bool
	}{
		{number(-2), list(-2), true},
		{char(0), list(chr(0)), true},
		{truth(0), list("FALSE"), true},
		{truth(1), list("TRUE"), true},
		{a, list("a"), true},
		{index("v", two(a, api.OperOr, a)), list("v [ a OR a ]"), true},
		{one(api.OperNeg, number(1)), list("-", 1), false},
		{one(api.OperNot, a), list("NOT a"), false},
		{two(a, api.OperAnd, a), list("a AND a"), false},
		{convert(api.TyInt, a), list("INT a"), false},
		{size("v"), list("SIZE v"), false},
	} {
		operand := c.tokens
		if !c.without {
			operand = inside(1, c.tokens)
		}
		checkTokens(t, c.x, c.tokens)
		checkTokens(t, index("w", c.x), list("w [", c.tokens, "]"))
		checkTokens(t, one(api.OperBitNot, c.x), list("~", operand))
		checkTokens(t, two(c.x, api.OperGt, a), list(operand, "> a"))
		checkTokens(t, two(a, api.OperGt, c.x), list("a >", operand))
		checkTokens(t, two(c.x, api.OperGt, c.x), list(operand, ">", operand))
		checkTokens(t, convert(api.TyBool, c.x), list("BOOL", operand))
	}
}

// P10.2: the tokens by the chapter's rules, each of which exists, with At 0; and new memory.
func TestTokensOfMany(t *testing.T) {
	next := random(5)
	l := samples()
	for range 5000 {
		l = append(l, anyExpr(next, 1+next(6)))
	}
	for _, x := range l {
		if !mayByRules(x) {
			continue
		}
		was, want := cloned(x), tokensByRules(x, noMore)
		checkTokens(t, x, want)
		got, _ := expr.Tokens(x)
		for i := range got {
			if !lex.May(got[i]) || got[i].At != 0 {
				t.Errorf("Tokens(%s): %s", brief(x), brief(got[i]))
			}
			got[i] = api.Token{At: 9}
		}
		_ = append(got[:0], num(1), num(2))
		checkTokens(t, x, want)
		if !equal(x, was) {
			t.Errorf("%s has changed to %s", brief(was), brief(x))
		}
	}
}

// P10.2: what is not valid has no tokens.
func TestNoTokens(t *testing.T) {
	for what, x := range map[string]api.Expr{
		"no kind": {}, "no such kind": {Kind: 10, S: "x"}, "character": char(256), "truth": truth(-1), "name": named("SEQ"), "inside": one(api.OperNeg, api.Expr{}), "number": {Kind: api.ExNumber, N: 1, S: "x"},
		"operands": two(number(1), api.OperNeg, number(1)), "last": two(number(1), api.OperAdd, two(number(1), api.OperAdd, named("1"))), "33 deep": deep(33), "257": filled(257, 32, false), "257, 32 deep": filled(257, 32, true),
	} {
		if l, e := expr.Tokens(x); len(l) != 0 || e != api.ErrArg {
			t.Errorf("%s: %s, %d", what, brief(l), e)
		}
	}
	for what, x := range map[string]api.Expr{"32 deep": deep(32), "256": filled(256, 32, false), "256, 32 deep": filled(256, 32, true)} {
		if l, e := expr.Tokens(x); len(l) == 0 || e != api.OK {
			t.Errorf("%s: %d", what, e)
		}
	}
}
