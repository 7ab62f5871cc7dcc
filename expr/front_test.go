package expr_test

import (
	"math"
	"slices"
	"strings"
	"testing"

	"transputer/api"
	"transputer/expr"
	"transputer/lex"
)

// missing are tokens that do not exist.
var missing = []api.Token{
	{}, {Text: "("}, {Text: "["}, {Text: "+"}, {Text: "x"}, {Kind: 6, Text: "+"}, {Kind: 255, Text: "["},
	{Kind: api.TokName}, {Kind: api.TokName, Text: "IF"}, {Kind: api.TokName, Text: "AND"}, {Kind: api.TokName, Text: "("}, {Kind: api.TokName, Text: tooLong}, {Kind: api.TokName, Text: "x", N: 1}, {Kind: api.TokName, Text: "x", At: 256}, {Kind: api.TokName, Text: "x", At: -1},
	{Kind: api.TokKey}, {Kind: api.TokKey, Text: "x"}, {Kind: api.TokKey, Text: "+"}, {Kind: api.TokKey, Text: "AND", N: 1}, {Kind: api.TokKey, Text: "TRUE", N: 1}, {Kind: api.TokKey, Text: "FALSE", At: 256}, {Kind: api.TokKey, Text: "OR", At: 256}, {Kind: api.TokKey, Text: "SIZE", At: -1}, {Kind: api.TokKey, Text: "INT", N: -1}, {Kind: api.TokKey, Text: "NOT", N: 2}, {Kind: api.TokKey, Text: "MINUS", At: math.MinInt},
	{Kind: api.TokSym}, {Kind: api.TokSym, Text: "AND"}, {Kind: api.TokSym, Text: "(("}, {Kind: api.TokSym, Text: "x"}, {Kind: api.TokSym, Text: "+", N: 1}, {Kind: api.TokSym, Text: "-", At: 256}, {Kind: api.TokSym, Text: "(", At: 256}, {Kind: api.TokSym, Text: "(", N: 1}, {Kind: api.TokSym, Text: "[", At: 256}, {Kind: api.TokSym, Text: "[", N: 1}, {Kind: api.TokSym, Text: ")", At: -1}, {Kind: api.TokSym, Text: "]", N: 1}, {Kind: api.TokSym, Text: "~", At: math.MaxInt},
	{Kind: api.TokNumber, Text: "1"}, {Kind: api.TokNumber, N: 1, At: 256}, {Kind: api.TokNumber, Text: "+"}, {Kind: api.TokByte, N: 256}, {Kind: api.TokByte, N: -1}, {Kind: api.TokByte, N: 1, Text: "("}, {Kind: api.TokByte, N: 1, At: -1},
}

// rest is what readByRules has left of the tokens, and the number of brackets that are open.
type rest struct {
	l    []api.Token
	open int
}

// is tells whether the next token exists and is this word.
func (r rest) is(word string) bool {
	x := token(word)
	if len(r.l) == 0 || !lex.May(r.l[0]) {
		return false
	}
	x.At = r.l[0].At
	return r.l[0] == x
}

// among returns the index of the next token among words, or -1.
func (r rest) among(words []string) int { return slices.IndexFunc(words, r.is) }

func (r rest) behind(tokens int) rest { return rest{r.l[tokens:], r.open} }

// inBrackets reads an expression and the closing bracket behind it.
func (r rest) inBrackets(closing string) (api.Expr, rest, api.Errno) {
	if r.open == 32 {
		return api.Expr{}, r, api.ErrLong
	}
	x, left, e := rest{r.l[1:], r.open + 1}.expression()
	if e == api.OK && !left.is(closing) {
		e = api.ErrExpr
	}
	if e != api.OK {
		return x, left, e
	}
	return x, rest{left.l[1:], r.open}, api.OK
}

func (r rest) operand() (api.Expr, rest, api.Errno) {
	if len(r.l) == 0 || !lex.May(r.l[0]) {
		return api.Expr{}, r, api.ErrExpr
	}
	x := r.l[0]
	switch {
	case x.Kind == api.TokNumber:
		return number(x.N), r.behind(1), api.OK
	case x.Kind == api.TokByte:
		return char(x.N), r.behind(1), api.OK
	case r.is("FALSE"):
		return truth(0), r.behind(1), api.OK
	case r.is("TRUE"):
		return truth(1), r.behind(1), api.OK
	case r.is("("):
		return r.inBrackets(")")
	case x.Kind != api.TokName:
		return api.Expr{}, r, api.ErrExpr
	case !r.behind(1).is("["):
		return named(x.Text), r.behind(1), api.OK
	}
	i, left, e := r.behind(1).inBrackets("]")
	return index(x.Text, i), left, e
}

func (r rest) expression() (api.Expr, rest, api.Errno) {
	if r.is("SIZE") {
		if len(r.l) < 2 || !lex.May(r.l[1]) || r.l[1].Kind != api.TokName {
			return api.Expr{}, r, api.ErrExpr
		}
		return size(r.l[1].Text), r.behind(2), api.OK
	}
	if i := r.among([]string{"INT", "BYTE", "BOOL"}); i >= 0 {
		x, left, e := r.behind(1).operand()
		return convert(api.TyInt+api.TypeKind(i), x), left, e
	}
	if i := r.among(monadic); i >= 0 {
		x, left, e := r.behind(1).operand()
		return one(api.OperNeg+api.Operator(i), x), left, e
	}
	a, left, e := r.operand()
	if e != api.OK {
		return a, left, e
	}
	i := left.among(dyadic)
	if i < 0 {
		return a, left, api.OK
	}
	b, left, e := left.behind(1).operand()
	return two(a, api.OperAdd+api.Operator(i), b), left, e
}

// readByRules returns what the chapter says that Front returns.
func readByRules(l []api.Token) (api.Expr, int, api.Errno) {
	x, left, e := rest{l: l}.expression()
	if e == api.OK && !mayByRules(x) {
		e = api.ErrLong
	}
	if e != api.OK {
		return api.Expr{}, 0, e
	}
	return x, len(l) - len(left.l), api.OK
}

func checkFront(t *testing.T, l []api.Token, want api.Expr, tokens int) {
	t.Helper()
	if x, n, e := expr.Front(l); !equal(x, want) || n != tokens || e != api.OK {
		t.Errorf("Front(%s) = %s, %d, %d, want %s, %d", brief(l), brief(x), n, e, brief(want), tokens)
	}
}

func checkNoFront(t *testing.T, l []api.Token, want api.Errno) {
	t.Helper()
	if x, n, e := expr.Front(l); !equal(x, api.Expr{}) || n != 0 || e != want {
		t.Errorf("Front(%s) = %s, %d, %d, want %d", brief(l), brief(x), n, e, want)
	}
}

// checkByRules checks Front against readByRules, and that the tokens are unchanged.
func checkByRules(t *testing.T, l []api.Token) api.Errno {
	t.Helper()
	was := slices.Clone(l)
	x, tokens, e := readByRules(l)
	if e == api.OK {
		checkFront(t, l, x, tokens)
	} else {
		checkNoFront(t, l, e)
	}
	if !slices.Equal(l, was) {
		t.Errorf("%s have changed to %s", brief(was), brief(l))
	}
	return e
}

// P10.3: what is read, from every kind on, and how many tokens are taken.
func TestFrontTable(t *testing.T) {
	a, b, c, v := named("a"), named("b"), named("c"), index("v", named("i"))
	for _, f := range []struct {
		l      []api.Token
		want   api.Expr
		tokens int
	}{
		{list("x :="), named("x"), 1},
		{list("-", 1), one(api.OperNeg, number(1)), 2},
		{list("a - b - c"), two(a, api.OperSub, b), 3},
		{list("( ( a ) )"), a, 5},
		{list("NOT a AND b"), one(api.OperNot, a), 2},
		{list("BYTE ( x +", 1, ")"), convert(api.TyByte, two(named("x"), api.OperAdd, number(1))), 6},
		{list("a + b * c"), two(a, api.OperAdd, b), 3},
		{list("a"), a, 1},
		{list("a a"), a, 1},
		{list("a", 1), a, 1},
		{list("a ( b )"), a, 1},
		{list("a ]"), a, 1},
		{list("a )"), a, 1},
		{list("a SIZE"), a, 1},
		{list("a NOT b"), a, 1},
		{list("a ~"), a, 1},
		{list("a INT"), a, 1},
		{list("a TRUE"), a, 1},
		{list("a FOR"), a, 1},
		{list("a ? b"), a, 1},
		{list(1), number(1), 1},
		{list(-5, 6), number(-5), 1},
		{list(math.MinInt32), number(math.MinInt32), 1},
		{list(1, "[", 2, "]"), number(1), 1},
		{list(1, "+", 2), two(number(1), api.OperAdd, number(2)), 3},
		{list(chr(0)), char(0), 1},
		{list(chr(255), chr(1)), char(255), 1},
		{list(chr('a'), "= a"), two(char('a'), api.OperEq, a), 3},
		{list("TRUE"), truth(1), 1},
		{list("FALSE"), truth(0), 1},
		{list("TRUE [ a ]"), truth(1), 1},
		{list("FALSE OR TRUE"), two(truth(0), api.OperOr, truth(1)), 3},
		{list("v [ i ]"), v, 4},
		{list("v [ i ] :="), v, 4},
		{list("v [ i ] [ i ]"), v, 4},
		{list("v [ i ] - v [ i ] [ i ]"), two(v, api.OperSub, v), 9},
		{list("v [ v [ i ] ]"), index("v", v), 7},
		{list("v [ ( i ) ]"), v, 6},
		{list("v [ - a ]"), index("v", one(api.OperNeg, a)), 5},
		{list("v [ SIZE v ] >> a"), two(index("v", size("v")), api.OperShr, a), 7},
		{list("( a ) [ b ]"), a, 3},
		{list("( a ) + ( b ) + c"), two(a, api.OperAdd, b), 7},
		{list("( a + b ) + c"), two(two(a, api.OperAdd, b), api.OperAdd, c), 7},
		{list("a + ( b + c )"), two(a, api.OperAdd, two(b, api.OperAdd, c)), 7},
		{list("( a + b"), api.Expr{}, 0},
		{list("SIZE v"), size("v"), 2},
		{list("SIZE v [ i ]"), size("v"), 2},
		{list("SIZE v -", 1), size("v"), 2},
		{list("( SIZE v ) -", 1), two(size("v"), api.OperSub, number(1)), 6},
		{list("INT a + b"), convert(api.TyInt, a), 2},
		{list("INT", chr(7)), convert(api.TyInt, char(7)), 2},
		{list("BOOL v [ i ] = TRUE"), convert(api.TyBool, v), 5},
		{list("BYTE ( SIZE v )"), convert(api.TyByte, size("v")), 5},
		{list("MINUS a MINUS b"), one(api.OperModNeg, a), 2},
		{list("a MINUS b MINUS c"), two(a, api.OperMinus, b), 3},
		{list("~ a /\\ b"), one(api.OperBitNot, a), 2},
		{list("- v [ i ]"), one(api.OperNeg, v), 5},
		{list("- ( - a )"), one(api.OperNeg, one(api.OperNeg, a)), 5},
		{list("- TRUE"), one(api.OperNeg, truth(1)), 2},
		{list("a + b ("), two(a, api.OperAdd, b), 3},
		{list("a + b ]"), two(a, api.OperAdd, b), 3},
		{list("a + b AND"), two(a, api.OperAdd, b), 3},
		{list("a AFTER b AFTER"), two(a, api.OperAfter, b), 3},
	} {
		if f.tokens == 0 {
			checkNoFront(t, f.l, api.ErrExpr)
			continue
		}
		checkFront(t, f.l, f.want, f.tokens)
		checkByRules(t, f.l)
	}
}

// P10.3: every operator in front of an operand, between two, and behind the second one, where it is not taken.
func TestFrontOperators(t *testing.T) {
	a, b := named("a"), named("b")
	for i, word := range dyadic {
		o := api.OperAdd + api.Operator(i)
		checkFront(t, list("a", word, "b"), two(a, o, b), 3)
		checkFront(t, list(1, word, chr(2), ";"), two(number(1), o, char(2)), 3)
		checkFront(t, list("a [ b ]", word, "( b )"), two(index("a", b), o, b), 8)
		checkNoFront(t, list("a", word), api.ErrExpr)
		checkNoFront(t, list("a", word, ")"), api.ErrExpr)
		checkNoFront(t, list("a", word, word, "b"), api.ErrExpr)
		for j, behind := range dyadic {
			checkFront(t, list("a", word, "b", behind, "a"), two(a, o, b), 3)
			checkFront(t, list("( a", word, "b )", behind, "a"), two(two(a, o, b), api.OperAdd+api.Operator(j), a), 7)
			checkNoFront(t, list("( a", word, "b", behind, "a )"), api.ErrExpr)
		}
		for j, inFront := range monadic {
			checkFront(t, list(inFront, "a", word, "b"), one(api.OperNeg+api.Operator(j), a), 2)
			checkFront(t, list("a", word, "(", inFront, "b )"), two(a, o, one(api.OperNeg+api.Operator(j), b)), 6)
			checkNoFront(t, list("a", word, inFront, "b"), api.ErrExpr)
		}
		if !slices.Contains(monadic, word) {
			checkNoFront(t, list(word, "a"), api.ErrExpr)
		}
		for _, first := range []string{"INT", "BYTE", "BOOL", "SIZE"} {
			checkNoFront(t, list(first, word, "a"), api.ErrExpr)
			checkNoFront(t, list("a", word, first, "a"), api.ErrExpr)
		}
	}
	for i, word := range monadic {
		o := api.OperNeg + api.Operator(i)
		checkFront(t, list(word, "a"), one(o, a), 2)
		checkFront(t, list(word, "( a )"), one(o, a), 4)
		checkFront(t, list(word, "a", "b"), one(o, a), 2)
		checkNoFront(t, list(word), api.ErrExpr)
		for _, first := range slices.Concat(monadic, []string{"INT", "BYTE", "BOOL", "SIZE", ")", "]", "[", ":="}) {
			checkNoFront(t, list(word, first, "a"), api.ErrExpr)
		}
		checkFront(t, list("( ( ", word, "a ) )"), one(o, a), 6)
		checkFront(t, list("v [", word, "a ]"), index("v", one(o, a)), 5)
	}
}

// P10.3: what is no expression.
func TestNoFront(t *testing.T) {
	for _, l := range [][]api.Token{
		nil, {}, list("-"), list("v [ i"), list("a + )"), list("SIZE", 3), list("SIZE"), list("SIZE IF"), list("SIZE INT"), list("SIZE ("), list("SIZE ( v )"), list("SIZE TRUE"), list("SIZE", chr(1)), list("SIZE SIZE v"),
		list("INT"), list("BYTE"), list("BOOL"), list("INT +", 1), list("INT + a"), list("BYTE * a"), list("BOOL INT a"), list("INT SIZE v"), list("INT - a"), list("INT NOT a"), list("INT )"), list("INT ["), list("[", 3, "] INT"),
		list("("), list("( )"), list("( a"), list("( a b )"), list("( a ]"), list("( a + b"), list("( a +"), list("( ( a )"), list("( SIZE v"), list("( INT a"), list("( - a"), list("( ) a"),
		list("v ["), list("v [ ]"), list("v [ i )"), list("v [ i +"), list("v [ i i ]"), list("v [ i ; i ]"), list("v [ [ i ] ]"), list("v [ i [ i ]"), list("v [ ( i ]"), list("v [ ( i ] )"), list("v [ SIZE ]"), list("v [ - ]"),
		list("["), list("]"), list(")"), list("[ a ]"), list(":="), list("? a"), list("IF"), list("AND a"), list("TIMER"), list("CHAN OF INT"), list("SKIP"), list("FOR a"), list("a + :="), list("a + IF"), list("a + v [ i"), list("a + ( b"), list("NOT"), list("a = NOT b"), list("a AND SIZE v"),
	} {
		checkNoFront(t, l, api.ErrExpr)
		checkByRules(t, l)
	}
}

// P10.3: expressions of every kind, with each sample of tokens behind them, and cut off after every token.
func TestFrontCutOff(t *testing.T) {
	followers := []any{"", ":=", "a", 1, chr(1), "TRUE", "SIZE v", "INT", "FOR", "(", ")", "( a )", "[", "]", "[ a ]", "+ a", "- a", "AND", "~", "NOT a", "+ (", missing[3], missing[35], missing[36]}
	for _, x := range samples() {
		l := tokensByRules(x, noMore)
		for _, f := range followers {
			checkByRules(t, list(l, f))
			checkByRules(t, list("(", l, f))
			checkByRules(t, list("v [", l, f))
		}
		if len(l) > 80 {
			continue
		}
		for i := range l {
			checkByRules(t, l[:i])
			checkByRules(t, slices.Clip(l[:i]))
			checkByRules(t, list(l[:i], l[i+1:]))
		}
	}
}

// P10.3: tokens that do not exist, where one is required and where the next one is only looked at.
func TestFrontMissing(t *testing.T) {
	a, b := named("a"), named("b")
	for _, m := range missing {
		if lex.May(m) {
			t.Errorf("%s exists", brief(m))
		}
		for _, l := range [][]api.Token{
			list(m), list(m, "a"), list(m, "v"), list("SIZE", m), list("INT", m), list("BOOL", m, "a"), list("-", m), list("NOT", m, "a"), list("a +", m), list("a AND", m, "b"),
			list("(", m), list("(", m, "a )"), list("( a", m), list("( a", m, ")"), list("( a", m, "b )"), list("v [", m), list("v [", m, "]"), list("v [ a", m, "]"), list("v [ a + b", m), list("( SIZE v", m, ")"), list("( ( a )", m, ")"),
		} {
			checkNoFront(t, l, api.ErrExpr)
			checkByRules(t, l)
		}
		for _, behind := range [][]api.Token{list(m), list(m, "a"), list(m, "b ]"), list(m, "+ b"), list(m, m)} {
			checkFront(t, list("a", behind), a, 1)
			checkFront(t, list(1, behind), number(1), 1)
			checkFront(t, list("( a )", behind), a, 3)
			checkFront(t, list("a + b", behind), two(a, api.OperAdd, b), 3)
			checkFront(t, list("- a", behind), one(api.OperNeg, a), 2)
			checkFront(t, list("INT a", behind), convert(api.TyInt, a), 2)
			checkFront(t, list("SIZE a", behind), size("a"), 2)
			checkFront(t, list("a [ b ]", behind), index("a", b), 4)
		}
		// Behind the next token nothing is looked at.
		checkFront(t, list("a :=", m, m), a, 1)
		checkFront(t, list("a + b +", m), two(a, api.OperAdd, b), 3)
	}
}

// P10.3: At does not matter as long as the tokens exist.
func TestFrontAt(t *testing.T) {
	x := two(index("v", one(api.OperNeg, size("w"))), api.OperShl, convert(api.TyInt, char(7)))
	l := tokensByRules(x, noMore)
	for i := range l {
		l[i].At = []int{0, 255, 9, 1}[i%4]
	}
	checkFront(t, list(l, ":="), x, len(l))
	for i := range l {
		l[i].At = 255
		checkFront(t, l, x, len(l))
	}
	line, _, _ := lex.Tokens("  v[ -(SIZE w) ]  << (INT '*#07')  ")
	checkFront(t, line, x, len(line))
	for i := range line {
		for _, at := range []int{-1, 256, math.MaxInt, math.MinInt} {
			m := slices.Clone(line)
			m[i].At = at
			checkByRules(t, m)
		}
	}
}

// nested returns tokens with so many brackets open around an operand, of one kind or mixed, and those that close them.
func nested(brackets int, kind func(i int) bool, middle []api.Token) []api.Token {
	l := middle
	for i := range brackets {
		if kind(i) {
			l = list("v [", l, "]")
		} else {
			l = list("(", l, ")")
		}
	}
	return l
}

// P10.3: 32 brackets may be open, not 33; where one more would be taken, this is the error, whatever follows.
func TestFrontBrackets(t *testing.T) {
	for what, kind := range map[string]func(i int) bool{
		"round": func(i int) bool { return false }, "square": func(i int) bool { return true }, "mixed": func(i int) bool { return i%2 == 0 }, "mixed otherwise": func(i int) bool { return i%3 == 1 }, "square inside": func(i int) bool { return i == 0 },
	} {
		want := func(brackets int) api.Errno {
			if brackets > 32 || what == "square" && brackets > 31 { // with an index in an index 32 times, it is 33 deep
				return api.ErrLong
			}
			return api.OK
		}
		for _, n := range []int{0, 1, 2, 30, 31, 32, 33, 34, 64, 1000} {
			if e := checkByRules(t, nested(n, kind, list("a"))); e != want(n) {
				t.Errorf("%s, %d brackets: %d", what, n, e)
			}
			if n >= 33 {
				continue
			}
			l := nested(n, kind, list("a"))
			for i := range l {
				checkByRules(t, l[:i])
				checkByRules(t, list(l[:i], "a", l[i:]))
			}
		}
	}
	round := slices.Repeat(list("("), 33)
	square := slices.Repeat(list("v ["), 33)
	checkFront(t, nested(32, func(int) bool { return false }, list("a")), named("a"), 65)
	checkNoFront(t, round, api.ErrLong)
	checkNoFront(t, round[:32], api.ErrExpr)
	checkNoFront(t, list(round[:32], ":="), api.ErrExpr)
	checkNoFront(t, list(round, ":="), api.ErrLong)
	checkNoFront(t, list(round[:32], "v"), api.ErrExpr)
	checkNoFront(t, list(round[:32], "v ["), api.ErrLong)
	checkNoFront(t, list(round[:32], "v [ ] IF"), api.ErrLong)
	checkNoFront(t, list(round[:32], "SIZE v ["), api.ErrExpr)
	checkNoFront(t, list(square), api.ErrLong)
	checkNoFront(t, list(square[:64]), api.ErrExpr)
	checkNoFront(t, list(square[:64], "v"), api.ErrExpr)
	checkNoFront(t, list(square[:64], "("), api.ErrLong)
	checkNoFront(t, list(square[:64], "- ("), api.ErrLong)
	checkNoFront(t, list(square[:64], "INT ("), api.ErrLong)
	checkNoFront(t, list(square[:64], "a + ("), api.ErrLong)
	checkNoFront(t, list(square[:62], "( ("), api.ErrLong)
	// A bracket that has been closed is open no more, and one that cannot be taken does not count.
	checkFront(t, list(inside(32, list("a")), "+", inside(32, list("b"))), two(named("a"), api.OperAdd, named("b")), 131)
	checkFront(t, list("v [", inside(31, list("a")), "] + v [", inside(31, list("b")), "]"), two(index("v", named("a")), api.OperAdd, index("v", named("b"))), 133)
	checkFront(t, list(inside(32, list("a")), "("), named("a"), 65)
	checkFront(t, list(inside(32, list("a")), "["), named("a"), 65)
	checkFront(t, list(inside(32, list("a + b")), round), two(named("a"), api.OperAdd, named("b")), 67)
	checkNoFront(t, list(inside(32, list("a")), "+", inside(33, list("b"))), api.ErrLong)
	checkNoFront(t, list("a + b", round)[1:], api.ErrExpr)
}

// tokensOfAny returns the tokens of an expression, which need not be valid.
func tokensOfAny(x api.Expr) []api.Token { return tokensByRules(x, noMore) }

// P10.3: what would be too long is an error, unless reading ends with another one.
func TestFrontTooLong(t *testing.T) {
	for _, n := range []int{255, 256, 257, 258, 1000} {
		x := filled(n, 32, false)
		l := tokensOfAny(x)
		if n <= 256 {
			checkFront(t, l, x, len(l))
			checkFront(t, list(l, ")"), x, len(l))
		} else {
			checkNoFront(t, l, api.ErrLong)
			checkNoFront(t, list(l, ")"), api.ErrLong)
			checkNoFront(t, list(l, "IF"), api.ErrLong)
		}
		checkNoFront(t, list("(", l), api.ErrExpr)
		checkNoFront(t, list("(", l, "]"), api.ErrExpr)
		checkNoFront(t, l[:len(l)-1], api.ErrExpr)
		checkNoFront(t, list("(", l, ") +"), api.ErrExpr)
		checkNoFront(t, list("(", l, ") + SIZE"), api.ErrExpr)
		checkNoFront(t, list("(", l, ") +", slices.Repeat(list("("), 33)), api.ErrLong)
		checkNoFront(t, list("(", l, ") +", slices.Repeat(list("("), 32)), api.ErrExpr)
		checkNoFront(t, list("v [", l, ") ]"), api.ErrExpr)
	}
	for n := 30; n <= 33; n++ {
		x := deep(n)
		l := tokensOfAny(x)
		if n <= 32 {
			checkFront(t, l, x, len(l))
		} else {
			checkNoFront(t, l, api.ErrLong)
			checkNoFront(t, list(l, "IF"), api.ErrLong)
		}
		checkNoFront(t, list("(", l), api.ErrExpr)
		checkNoFront(t, l[:len(l)-1], api.ErrExpr)
	}
	checkNoFront(t, list(slices.Repeat(list("- ("), 32), "a", slices.Repeat(list(")"), 32)), api.ErrLong)
	checkNoFront(t, list(slices.Repeat(list("- ("), 32), "a", slices.Repeat(list(")"), 31)), api.ErrExpr)
}

// P10.3, R1: a million tokens, of one expression, or most of them behind it.
func TestFrontMillion(t *testing.T) {
	a := named("a")
	for _, behind := range []string{"a", ":=", ")", "(", "]", "FOR", "~"} {
		checkFront(t, list("a", slices.Repeat(list(behind), 1000000)), a, 1)
	}
	checkFront(t, list("a", slices.Repeat(list("- b"), 500000)), two(a, api.OperSub, named("b")), 3)
	checkFront(t, list("a", slices.Repeat(missing[:1], 1000000)), a, 1)
	checkNoFront(t, slices.Repeat(list("("), 1000000), api.ErrLong)
	checkNoFront(t, slices.Repeat(list("v ["), 500000), api.ErrLong)
	checkNoFront(t, slices.Repeat(list("-"), 1000000), api.ErrExpr)
	l := tokensOfAny(filled(500001, 20, false))
	if len(l) < 1000000 {
		t.Fatal(len(l))
	}
	checkNoFront(t, l, api.ErrLong)
	checkNoFront(t, l[:len(l)-1], api.ErrExpr)
	checkNoFront(t, list("(", l, "+"), api.ErrExpr)
	checkNoFront(t, list("(", l, ") + INT"), api.ErrExpr)
}

// P10.3: all sequences of up to four of these tokens, and of five of the first of them.
func TestFrontSequences(t *testing.T) {
	all := list("a ( ) [ ] - SIZE", 1, "INT + NOT TRUE MINUS ~ :=", chr(9), "FALSE BYTE AND IF", missing[30], missing[32])
	read := 0
	var from func(l, tokens []api.Token, more int)
	from = func(l, tokens []api.Token, more int) {
		if checkByRules(t, l) == api.OK {
			read++
		}
		if more == 0 {
			return
		}
		for _, x := range tokens {
			from(append(slices.Clip(l), x), tokens, more-1)
		}
	}
	from(nil, all, 4)
	from(nil, all[:11], 5)
	if read < 50000 {
		t.Errorf("only %d were read", read)
	}
}

// P10.3: longer sequences without a pattern, and tokens of expressions with some of them changed.
func TestFrontRandom(t *testing.T) {
	next := random(8)
	words := slices.Concat(list("a a a b ( ( ( ) ) ) [ ] ] - ~ SIZE INT BOOL TRUE ; IF", 1, chr(1)), list(strings.Join(dyadic, " ")), missing[20:24])
	counts := map[api.Errno]int{}
	for range 60000 {
		l := []api.Token{}
		if next(2) == 0 {
			for range next(16) {
				l = append(l, words[next(len(words))])
			}
		} else {
			l = tokensByRules(anyExpr(next, 1+next(5)), func() int { return next(8) / 7 })
			for range next(3) {
				i := next(len(l) + 1)
				l = slices.Concat(l[:i], words[next(len(words)):][:next(2)], l[min(len(l), i+next(2)):])
			}
		}
		counts[checkByRules(t, l)]++
	}
	if counts[api.OK] < 10000 || counts[api.ErrExpr] < 10000 {
		t.Errorf("%v: too few to test anything", counts)
	}
}

// P10.4: the tokens of an expression, with and without parentheses around them and with others behind them, are read as it; so is its text.
func TestReadBack(t *testing.T) {
	next := random(4)
	l := samples()
	for range 4000 {
		if x := anyExpr(next, 1+next(6)); mayByRules(x) {
			l = append(l, x)
		}
	}
	followers := slices.Concat(list(":= a", 1, chr(1), "TRUE SIZE INT ~ NOT ( ) ] ; , : ? ! & FOR IS IF OF"), missing)
	for _, x := range l {
		w, e := expr.Tokens(x)
		if e != api.OK {
			t.Errorf("Tokens(%s): %d", brief(x), e)
		}
		checkFront(t, w, x, len(w))
		checkFront(t, inside(1, w), x, len(w)+2)
		for range 4 {
			checkFront(t, list(w, followers[next(len(followers))], "+ a"), x, len(w))
			checkFront(t, list(inside(1, w), followers[next(len(followers))], "[ a ]"), x, len(w)+2)
		}
		more := tokensByRules(x, func() int { return next(10) / 9 })
		if _, _, e := readByRules(more); e == api.OK {
			checkFront(t, more, x, len(more))
		}
		s, e := lex.Text(w)
		if e == api.ErrLong {
			continue
		}
		read, _, e := lex.Tokens(s)
		if e != api.OK {
			t.Errorf("Tokens(%s): %d", brief(s), e)
		}
		checkFront(t, read, x, len(w))
	}
	for _, x := range samples()[:30] {
		w, _ := expr.Tokens(x)
		for _, f := range followers {
			checkFront(t, list(w, f), x, len(w))
		}
	}
}

// P10.4: parentheses around the tokens make no difference, as long as there are not too many.
func TestParentheses(t *testing.T) {
	for _, x := range samples() {
		w, _ := expr.Tokens(x)
		for _, pairs := range []int{1, 2, 10} {
			if _, depth, _ := measured(x); depth+pairs <= 33 {
				checkFront(t, inside(pairs, w), x, len(w)+2*pairs)
			}
		}
		checkNoFront(t, inside(33, w), api.ErrLong)
	}
	checkFront(t, inside(1, tokensOfAny(deep(32))), deep(32), len(tokensOfAny(deep(32)))+2)
	x, _, _ := expr.Front(list(1))
	y, _, _ := expr.Front(list("(", 1, ")"))
	if !expr.Same(x, y) {
		t.Error("1 and (1) differ")
	}
}

// P10.2, P10.4: texts of expressions.
func TestTexts(t *testing.T) {
	for _, c := range []struct{ line, want string }{
		{"(a)+(b*2)", "a + (b * 2)"},
		{"-(x)", "- x"},
		{"v[(i)PLUS 1] = 'q'", "v[i PLUS 1] = 'q'"},
		{"#10 /\\ (~ #F)", "16 /\\ (~ 15)"},
		{"(NOT p)AND(q OR r)", "(NOT p) AND (q OR r)"},
		{"(a + 1) * v[i]", "(a + 1) * v[i]"},
		{"((SIZE v)) - #FFFFFFFF", "(SIZE v) - #FFFFFFFF"},
		{"BYTE((x))", "BYTE x"},
		{"INT ('*n')", "INT '*n'"},
		{"((a\\/b)><((c)))", "(a \\/ b) >< c"},
		{"MINUS(MINUS(MINUS 1))", "MINUS (MINUS (MINUS 1))"},
		{"( ( TRUE ) )", "TRUE"},
	} {
		l, _, _ := lex.Tokens(c.line)
		x, n, e := expr.Front(l)
		if n != len(l) || e != api.OK {
			t.Errorf("%s: %d, %d", c.line, n, e)
		}
		w, _ := expr.Tokens(x)
		if s, e := lex.Text(w); s != c.want || e != api.OK {
			t.Errorf("%s: %s, %d, want %s", c.line, s, e, c.want)
		}
	}
}

// R6: what lies behind the tokens is neither read nor written, and the expression that was read is new memory.
func TestFrontMemory(t *testing.T) {
	l := list("v [ a + b ] - ( - c ) + d")
	was := slices.Clone(l)
	for i := range l {
		checkByRules(t, l[:i])
	}
	checkFront(t, l[:1], named("v"), 1)
	want := two(index("v", two(named("a"), api.OperAdd, named("b"))), api.OperSub, one(api.OperNeg, named("c")))
	x, _, _ := expr.Front(l)
	y, _, _ := expr.Front(l)
	spoil(&x)
	if !equal(y, want) {
		t.Errorf("two results share memory: %s", brief(y))
	}
	checkFront(t, l, want, 11)
	if !slices.Equal(l, was) {
		t.Error("the tokens have changed")
	}
	z, _, _ := expr.Front(l)
	places(&z, func(place *api.Expr) { _ = append(place.L, api.Expr{Kind: 99}) })
	if !equal(z, want) {
		t.Errorf("two lists of a result share memory: %s", brief(z))
	}
}

// spoil changes every expression in x.
func spoil(x *api.Expr) {
	for i := range x.L {
		spoil(&x.L[i])
	}
	x.Kind, x.S, x.N = 99, "spoilt", 99
	_ = append(x.L[:0], api.Expr{})
}

// Two slices of a result share no memory: changing one list leaves all others as they are.
func TestResultLists(t *testing.T) {
	for _, x := range samples()[:200] {
		w, _ := expr.Tokens(x)
		read, _, _ := expr.Front(w)
		seen := map[*api.Expr]bool{}
		places(&read, func(place *api.Expr) {
			if seen[place] {
				t.Errorf("%s: an expression is in two lists", brief(x))
			}
			seen[place] = true
		})
		if len(seen) != expr.Size(x) {
			t.Errorf("%s: %d expressions", brief(x), len(seen))
		}
	}
}
