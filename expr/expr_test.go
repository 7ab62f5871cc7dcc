package expr_test

import (
	"fmt"
	"math"
	"regexp"
	"slices"
	"strings"
	"testing"

	"transputer/api"
	"transputer/expr"
)

// reserved are the words that layer 8 lists.
var reserved = strings.Fields(`AFTER ALT AND BOOL BYTE CASE CHAN ELSE FALSE FOR IF INT IS MINUS NOT OF OR PAR PLACED PLUS PRI PROC PROCESSOR PROTOCOL
	SEQ SIZE SKIP STOP TIMER TIMES TRUE VAL WHILE`)

// dyadic and monadic are the words that the chapter lists, of the operators from OperAdd and from OperNeg on.
var (
	dyadic  = strings.Fields(`+ - * / \ PLUS MINUS TIMES /\ \/ >< << >> = <> < > <= >= AND OR AFTER`)
	monadic = strings.Fields(`- MINUS ~ NOT`)
)

// nameForm is what layer 8 says of a name, reserved words aside.
var nameForm = regexp.MustCompile(`\A[A-Za-z][A-Za-z0-9.]{0,31}\z`)

var (
	longest = strings.Repeat("n", 32)
	tooLong = strings.Repeat("n", 33)
	huge    = strings.Repeat("n", 1<<20)
)

// names are names, at the edges of what is one.
var names = []string{"v", "Z", "from.host", "size", "SIZE.", "INTS", "a..", "x9", longest, strings.Repeat("Q", 31) + "."}

// noNames are not.
var noNames = append([]string{"", " ", "v ", " v", ".v", "1", "1v", "v_w", "v-w", "é", "v\x00", "v\n", "[", "(", "a b", tooLong, huge, "\xff"}, reserved...)

var (
	kinds = []api.ExprKind{0, 1, 2, 3, 4, 5, 6, 7, 8, 9, 10, 128, 255}
	opers = []api.Operator{0, 1, 2, 3, 4, 5, 6, 7, 8, 9, 10, 11, 12, 13, 14, 15, 16, 17, 18, 19, 20, 21, 22, 23, 24, 25, 26, 27, 255}
	tos   = []api.TypeKind{0, 1, 2, 3, 4, 5, 6, 255}
	edges = []int32{math.MinInt32, -256, -1, 0, 1, 2, 254, 255, 256, 257, math.MaxInt32}
)

func number(n int32) api.Expr { return api.Expr{Kind: api.ExNumber, N: n} }

func char(n int32) api.Expr { return api.Expr{Kind: api.ExByte, N: n} }

func truth(n int32) api.Expr { return api.Expr{Kind: api.ExBool, N: n} }

func named(s string) api.Expr { return api.Expr{Kind: api.ExName, S: s} }

func index(s string, x api.Expr) api.Expr {
	return api.Expr{Kind: api.ExIndex, S: s, L: []api.Expr{x}}
}

func one(o api.Operator, x api.Expr) api.Expr {
	return api.Expr{Kind: api.ExMonadic, Oper: o, L: []api.Expr{x}}
}

func two(a api.Expr, o api.Operator, b api.Expr) api.Expr {
	return api.Expr{Kind: api.ExDyadic, Oper: o, L: []api.Expr{a, b}}
}

func convert(to api.TypeKind, x api.Expr) api.Expr {
	return api.Expr{Kind: api.ExConvert, To: to, L: []api.Expr{x}}
}

func size(s string) api.Expr { return api.Expr{Kind: api.ExSize, S: s} }

// random returns numbers in a fixed order without a pattern.
func random(seed uint32) func(n int) int {
	return func(n int) int {
		seed = seed*1664525 + 1013904223
		return int(seed>>9) % n
	}
}

// brief returns what a message shows of a value.
func brief(x any) string {
	s := fmt.Sprintf("%q", fmt.Sprint(x))
	return s[:min(300, len(s))]
}

// deep returns an expression with operands in operands, that is n deep.
func deep(n int) api.Expr {
	x := named("a")
	for i := 1; i < n; i++ {
		switch i % 4 {
		case 0:
			x = index("v", x)
		case 1:
			x = convert(api.TyInt, x)
		case 2:
			x = one(api.OperNeg, x)
		case 3:
			x = two(x, api.OperSub, number(1))
		}
	}
	return x
}

// room returns the greatest number of expressions in one that is so deep.
func room(depth int) int { return 1<<depth - 1 }

// filled returns an expression of n expressions that is as deep as is allowed: if lean, to the left, and otherwise as flat as can be.
func filled(n, depth int, lean bool) api.Expr {
	switch {
	case n == 1:
		return named("a")
	case n == 2:
		return one(api.OperBitNot, named("b"))
	}
	left := (n - 1) / 2
	if lean {
		left = min(n-2, room(depth-1))
	}
	return two(filled(left, depth-1, lean), api.OperAdd, filled(n-1-left, depth-1, lean))
}

// long returns an expression that is not valid, a million deep.
func long() api.Expr {
	x := index("last", number(7))
	for range 1000000 - 2 {
		x = one(api.OperNeg, x)
	}
	return x
}

// wide returns an expression that is not valid, a million wide.
func wide() api.Expr {
	x := api.Expr{Kind: api.ExIndex, S: "first", L: slices.Repeat([]api.Expr{number(1)}, 999999)}
	x.L[999998] = named("last")
	return x
}

// endless returns an expression in which it is contained itself, n times.
func endless(n int) api.Expr {
	x := two(number(1), api.OperAdd, number(2))
	if n == 1 {
		x = one(api.OperNeg, number(1))
	}
	for i := range x.L {
		x.L[i] = x
	}
	return x
}

// cloned returns a copy that shares no memory.
func cloned(x api.Expr) api.Expr {
	x.L = slices.Clone(x.L)
	for i := range x.L {
		x.L[i] = cloned(x.L[i])
	}
	return x
}

// equal compares what Same is to compare, of expressions that are not deep.
func equal(a, b api.Expr) bool {
	return a.Kind == b.Kind && a.Oper == b.Oper && a.To == b.To && a.N == b.N && a.S == b.S && slices.EqualFunc(a.L, b.L, equal)
}

func isName(s string) bool { return nameForm.MatchString(s) && !slices.Contains(reserved, s) }

// mayAlone tells whether the fields of an expression are those of the chapter's table.
func mayAlone(x api.Expr) bool {
	least := api.Expr{Kind: x.Kind, L: make([]api.Expr, 0, 2)}
	switch x.Kind {
	case api.ExNumber:
		least.N = x.N
	case api.ExByte:
		least.N = min(max(x.N, 0), 255)
	case api.ExBool:
		least.N = min(max(x.N, 0), 1)
	case api.ExName, api.ExSize, api.ExIndex:
		least.S = x.S
	case api.ExMonadic:
		least.Oper = min(max(x.Oper, 23), 26)
	case api.ExDyadic:
		least.Oper = min(max(x.Oper, 1), 22)
	case api.ExConvert:
		least.To = min(max(x.To, 1), 3)
	default:
		return false
	}
	operands := map[api.ExprKind]int{api.ExIndex: 1, api.ExMonadic: 1, api.ExConvert: 1, api.ExDyadic: 2}
	same := least.Oper == x.Oper && least.To == x.To && least.N == x.N && least.S == x.S
	return same && len(x.L) == operands[x.Kind] && (least.S == "" || isName(least.S)) && (least.S != "") == (x.Kind == api.ExName || x.Kind == api.ExSize || x.Kind == api.ExIndex)
}

// measured returns the number of expressions in one, how deep it is, and whether all in it have the fields of the table.
func measured(x api.Expr) (n, depth int, may bool) {
	n, may = 1, mayAlone(x)
	for _, y := range x.L {
		m, d, ok := measured(y)
		n, depth, may = n+m, max(depth, d), may && ok
	}
	return n, depth + 1, may
}

// mayByRules tells whether an expression is valid, as the chapter says.
func mayByRules(x api.Expr) bool {
	n, depth, may := measured(x)
	return may && n <= 256 && depth <= 32
}

// namesByRules returns the names in an expression.
func namesByRules(x api.Expr) (l []string) {
	if x.Kind == 4 || x.Kind == 5 || x.Kind == 9 {
		l = append(l, x.S)
	}
	for _, y := range x.L {
		l = append(l, namesByRules(y)...)
	}
	return l
}

// places calls f with each expression in x, which f may change for as long as it runs.
func places(x *api.Expr, f func(place *api.Expr)) {
	was := *x
	f(x)
	*x = was
	for i := range x.L {
		places(&x.L[i], f)
	}
}

// leaf returns an expression without operands.
func leaf(next func(int) int) api.Expr {
	switch next(5) {
	case 0:
		return number(int32(next(1<<23)*1023 - 1<<31))
	case 1:
		return char(int32(next(256)))
	case 2:
		return truth(int32(next(2)))
	case 3:
		return size(names[next(len(names))])
	}
	return named(names[next(len(names))])
}

// anyExpr returns a valid expression that is at most so deep.
func anyExpr(next func(int) int, depth int) api.Expr {
	if depth == 1 {
		return leaf(next)
	}
	switch next(8) {
	case 0:
		return leaf(next)
	case 1:
		return index(names[next(len(names))], anyExpr(next, depth-1))
	case 2:
		return one(api.OperNeg+api.Operator(next(4)), anyExpr(next, depth-1))
	case 3:
		return convert(api.TyInt+api.TypeKind(next(3)), anyExpr(next, depth-1))
	}
	return two(anyExpr(next, 1+next(depth-1)), api.OperAdd+api.Operator(next(22)), anyExpr(next, 1+next(depth-1)))
}

// samples are valid expressions of every kind, with operands of every kind.
func samples() []api.Expr {
	leaves := []api.Expr{number(0), number(3), number(-1), number(math.MinInt32), number(math.MaxInt32), char(0), char('a'), char(255), truth(0), truth(1), named("x"), named(longest), size("v"), size("SIZE.")}
	l := slices.Clone(leaves)
	inner := slices.Concat(leaves, []api.Expr{index("v", number(1)), one(api.OperNot, named("p")), two(named("i"), api.OperPlus, number(1)), convert(api.TyByte, named("c"))})
	for _, x := range inner {
		l = append(l, index("w", x))
		for o := range 4 {
			l = append(l, one(api.OperNeg+api.Operator(o), x))
		}
		for to := range 3 {
			l = append(l, convert(api.TyInt+api.TypeKind(to), x))
		}
		for o := range 22 {
			l = append(l, two(x, api.OperAdd+api.Operator(o), inner[o%len(inner)]), two(inner[(o+7)%len(inner)], api.OperAdd+api.Operator(o), x))
		}
	}
	return append(l, deep(2), deep(31), deep(32), filled(255, 32, true), filled(255, 32, false), filled(256, 32, true), filled(256, 32, false))
}

func checkMay(t *testing.T, x api.Expr, want bool) {
	t.Helper()
	if got := expr.May(x); got != want {
		t.Errorf("May(%s) = %t", brief(x), got)
	}
	l, e := expr.Tokens(x)
	if (e == api.OK) != want || e != api.OK && (e != api.ErrArg || len(l) > 0) || e == api.OK && len(l) == 0 {
		t.Errorf("Tokens(%s) = %s, %d", brief(x), brief(l), e)
	}
}

// P10.1: all combinations of the fields' edges.
func TestMayFields(t *testing.T) {
	good := named("y")
	valid := 0
	for _, k := range kinds {
		for _, o := range opers {
			for _, to := range tos {
				for _, n := range edges {
					for _, s := range []string{"", "x", "IF", longest, tooLong} {
						for operands := range 4 {
							x := api.Expr{Kind: k, Oper: o, To: to, N: n, S: s, L: slices.Repeat([]api.Expr{good}, operands)}
							want := mayAlone(x)
							if got := expr.May(x); got != want {
								t.Errorf("May(%s) = %t", brief(x), got)
							}
							if want {
								valid++
							}
						}
					}
				}
			}
		}
	}
	// So many does the table allow: of the numbers all, of the characters from 0 on 5, and of the names two.
	if want := len(edges) + 5 + 2 + 2 + 2 + 2 + 4 + 22 + 3; valid != want {
		t.Errorf("%d are valid, want %d", valid, want)
	}
}

// P10.1: what is a name, and what is not.
func TestMayNames(t *testing.T) {
	for _, s := range names {
		checkMay(t, named(s), true)
		checkMay(t, size(s), true)
		checkMay(t, index(s, number(1)), true)
	}
	for _, s := range noNames {
		checkMay(t, named(s), false)
		checkMay(t, size(s), false)
		checkMay(t, index(s, number(1)), false)
	}
}

// P10.1: the edges that the chapter names, one by one.
func TestMayTable(t *testing.T) {
	x := named("x")
	for _, c := range []struct {
		x    api.Expr
		want bool
	}{
		{api.Expr{}, false},
		{api.Expr{L: []api.Expr{x}}, false},
		{api.Expr{S: "x"}, false},
		{api.Expr{N: 1}, false},
		{api.Expr{Kind: 10}, false},
		{api.Expr{Kind: 10, S: "x"}, false},
		{api.Expr{Kind: 255}, false},
		{number(math.MinInt32), true},
		{number(math.MaxInt32), true},
		{api.Expr{Kind: api.ExNumber, L: []api.Expr{}}, true},
		{api.Expr{Kind: api.ExNumber, L: []api.Expr{x}}, false},
		{api.Expr{Kind: api.ExNumber, S: "x"}, false},
		{api.Expr{Kind: api.ExNumber, Oper: api.OperAdd}, false},
		{api.Expr{Kind: api.ExNumber, To: api.TyInt}, false},
		{char(-1), false},
		{char(0), true},
		{char(255), true},
		{char(256), false},
		{truth(-1), false},
		{truth(0), true},
		{truth(1), true},
		{truth(2), false},
		{api.Expr{Kind: api.ExName, S: "x", N: 1}, false},
		{api.Expr{Kind: api.ExName, S: "x", L: []api.Expr{x}}, false},
		{api.Expr{Kind: api.ExSize, S: "x", L: []api.Expr{x}}, false},
		{api.Expr{Kind: api.ExIndex, S: "x"}, false},
		{api.Expr{Kind: api.ExIndex, S: "x", L: []api.Expr{x, x}}, false},
		{api.Expr{Kind: api.ExMonadic, Oper: api.OperNeg}, false},
		{api.Expr{Kind: api.ExMonadic, Oper: api.OperNeg, L: []api.Expr{x, x}}, false},
		{api.Expr{Kind: api.ExDyadic, Oper: api.OperAdd}, false},
		{api.Expr{Kind: api.ExDyadic, Oper: api.OperAdd, L: []api.Expr{x}}, false},
		{api.Expr{Kind: api.ExDyadic, Oper: api.OperAdd, L: []api.Expr{x, x, x}}, false},
		{api.Expr{Kind: api.ExConvert, To: api.TyInt}, false},
		{api.Expr{Kind: api.ExConvert, To: api.TyInt, L: []api.Expr{x, x}}, false},
		{two(x, api.OperAfter, x), true},
		{two(x, api.OperNeg, x), false},
		{two(x, api.OperNot, x), false},
		{two(x, api.NoOperator, x), false},
		{one(api.OperAfter, x), false},
		{one(api.OperSub, x), false},
		{one(api.OperMinus, x), false},
		{one(api.OperNot, x), true},
		{one(27, x), false},
		{convert(api.NoType, x), false},
		{convert(api.TyBool, x), true},
		{convert(api.TyChan, x), false},
		{convert(api.TyTimer, x), false},
		{convert(6, x), false},
		{two(api.Expr{}, api.OperAdd, x), false},
		{two(x, api.OperAdd, api.Expr{}), false},
		{two(x, api.OperAdd, two(x, api.OperAdd, one(api.OperNeg, index("v", char(256))))), false},
		{two(x, api.OperAdd, two(x, api.OperAdd, one(api.OperNeg, index("v", char(255))))), true},
	} {
		checkMay(t, c.x, c.want)
	}
}

// P10.1: an expression that is not valid is found wherever it is.
func TestMayInside(t *testing.T) {
	bad := []api.Expr{{}, char(-1), char(256), truth(2), named(""), named("IF"), size(tooLong), index("v", api.Expr{}), one(api.OperAdd, number(1)), two(number(1), api.OperNot, number(1)), convert(api.TyChan, number(1)), {Kind: 10, S: "x"}, {Kind: api.ExName, S: "x", N: 1}}
	next := random(3)
	l := []api.Expr{deep(32), filled(256, 32, true), filled(256, 32, false)}
	for range 20 {
		l = append(l, anyExpr(next, 5))
	}
	for _, x := range l {
		checkMay(t, x, true)
		places(&x, func(place *api.Expr) {
			for _, b := range bad {
				*place = b
				if expr.May(x) {
					t.Errorf("May(%s) = true, with %s in it", brief(x), brief(b))
				}
			}
		})
		checkMay(t, x, true)
	}
}

// P10.1: sizes and depths at the limits.
func TestMayLimits(t *testing.T) {
	for _, lean := range []bool{false, true} {
		for _, n := range []int{1, 2, 3, 63, 64, 255, 256, 257, 258, 511, 1000} {
			x := filled(n, 32, lean)
			if got, depth, may := measured(x); got != n || depth > 32 || !may || lean && n >= 63 && depth != 32 {
				t.Fatalf("%d, %d, %t", got, depth, may)
			}
			checkMay(t, x, n <= 256)
			checkMay(t, one(api.OperNeg, x), n < 256 && (n < 63 || !lean))
		}
	}
	for n := 1; n <= 100; n++ {
		checkMay(t, deep(n), n <= 32)
		checkMay(t, two(deep(n), api.OperAdd, named("b")), n <= 31)
		checkMay(t, two(named("b"), api.OperAdd, deep(n)), n <= 31)
	}
	checkMay(t, two(filled(127, 31, true), api.OperAdd, filled(128, 31, true)), true)
	checkMay(t, two(filled(128, 31, true), api.OperAdd, filled(128, 31, true)), false)
	checkMay(t, two(filled(1, 31, true), api.OperAdd, filled(254, 31, false)), true)
	checkMay(t, two(filled(1, 31, true), api.OperAdd, filled(255, 31, false)), false)
}

// P10.1, R1: a check of a tree stops as soon as a limit is exceeded.
func TestMayStops(t *testing.T) {
	shared := named("a")
	for range 31 {
		shared = two(shared, api.OperAdd, shared)
	}
	many := api.Expr{Kind: api.ExDyadic, Oper: api.OperAdd, L: slices.Repeat([]api.Expr{endless(2)}, 1000000)}
	for what, x := range map[string]api.Expr{
		"long": long(), "wide": wide(), "endless": endless(1), "endless twice": endless(2), "2^31": shared, "many": many,
		"index": index("v", wide()), "right": two(number(1), api.OperAdd, endless(2)), "left": two(long(), api.OperAdd, number(1)),
	} {
		l, e := expr.Tokens(x)
		if expr.May(x) || len(l) != 0 || e != api.ErrArg {
			t.Errorf("%s: %t, %d", what, expr.May(x), e)
		}
	}
}

// P10.1, P10.2: May is the same as by the chapter's rules, for many trees without a pattern.
func TestRandomTrees(t *testing.T) {
	next := random(10)
	valid := 0
	for range 30000 {
		x := cloned(anyExpr(next, 1+next(7)))
		if next(2) == 0 {
			broken(&x, next)
		}
		want := mayByRules(x)
		if want {
			valid++
		}
		checkMay(t, x, want)
		if n, _, _ := measured(x); expr.Size(x) != n {
			t.Errorf("Size(%s) = %d, want %d", brief(x), expr.Size(x), n)
		}
		if got, want := expr.Names(x), namesByRules(x); !slices.Equal(got, want) {
			t.Errorf("Names(%s) = %s, want %s", brief(x), brief(got), brief(want))
		}
		if y := cloned(x); !expr.Same(x, y) {
			t.Errorf("Same(%s, the same) = false", brief(x))
		}
	}
	if valid < 10000 || valid > 25000 {
		t.Errorf("%d are valid: too few or too many to test anything", valid)
	}
}

// broken changes a field of an expression in x.
func broken(x *api.Expr, next func(int) int) {
	for len(x.L) > 0 && next(3) > 0 {
		x = &x.L[next(len(x.L))]
	}
	switch next(7) {
	case 0:
		x.Kind = kinds[next(len(kinds))]
	case 1:
		x.Oper = opers[next(len(opers))]
	case 2:
		x.To = tos[next(len(tos))]
	case 3:
		x.N = edges[next(len(edges))]
	case 4:
		x.S = noNames[next(len(noNames))]
	case 5:
		x.L = append(x.L, number(1))
	case 6:
		x.L = x.L[:next(1+len(x.L))]
	}
}

// P10.1: the sizes and the names of expressions, valid or not.
func TestSizeAndNames(t *testing.T) {
	for _, c := range []struct {
		x     api.Expr
		size  int
		names []string
	}{
		{api.Expr{}, 1, nil},
		{api.Expr{L: []api.Expr{}}, 1, nil},
		{api.Expr{S: "x"}, 1, nil},
		{api.Expr{L: []api.Expr{{}, named("a"), {L: []api.Expr{named("b"), {}}}, named("c")}}, 7, []string{"a", "b", "c"}},
		{number(5), 1, nil},
		{api.Expr{Kind: api.ExNumber, S: "x", L: []api.Expr{named("a"), named("b")}}, 3, []string{"a", "b"}},
		{api.Expr{Kind: api.ExByte, S: "x"}, 1, nil},
		{api.Expr{Kind: api.ExBool, S: "x"}, 1, nil},
		{api.Expr{Kind: api.ExMonadic, S: "x"}, 1, nil},
		{api.Expr{Kind: api.ExDyadic, S: "x", L: []api.Expr{named("a")}}, 2, []string{"a"}},
		{api.Expr{Kind: api.ExConvert, S: "x"}, 1, nil},
		{api.Expr{Kind: 10, S: "x", L: []api.Expr{size("a")}}, 2, []string{"a"}},
		{api.Expr{Kind: 255, S: "x"}, 1, nil},
		{named("x"), 1, []string{"x"}},
		{named(""), 1, []string{""}},
		{named("IF"), 1, []string{"IF"}},
		{size("x"), 1, []string{"x"}},
		{api.Expr{Kind: api.ExSize, L: []api.Expr{named("a")}}, 2, []string{"", "a"}},
		{api.Expr{Kind: api.ExName, S: "x", L: []api.Expr{named("a"), named("b")}}, 3, []string{"x", "a", "b"}},
		{api.Expr{Kind: api.ExIndex, S: "v"}, 1, []string{"v"}},
		{index("v", named("i")), 2, []string{"v", "i"}},
		{two(named("a"), api.OperAdd, index("v", named("i"))), 4, []string{"a", "v", "i"}},
		{two(index("v", named("i")), api.OperAdd, index("v", named("j"))), 5, []string{"v", "i", "v", "j"}},
		{index("u", index("v", two(size("w"), api.OperSub, index("x", number(1))))), 6, []string{"u", "v", "w", "x"}},
		{convert(api.TyInt, one(api.OperNeg, two(named("a"), api.OperMul, named("a")))), 5, []string{"a", "a"}},
	} {
		if got := expr.Size(c.x); got != c.size {
			t.Errorf("Size(%s) = %d, want %d", brief(c.x), got, c.size)
		}
		if got := expr.Names(c.x); !slices.Equal(got, c.names) {
			t.Errorf("Names(%s) = %s, want %s", brief(c.x), brief(got), brief(c.names))
		}
	}
}

// P10.1, R1: trees of a million expressions.
func TestMillions(t *testing.T) {
	deep, wide := long(), wide()
	if n := expr.Size(deep); n != 1000000 {
		t.Errorf("Size of the deep one: %d", n)
	}
	if n := expr.Size(wide); n != 1000000 {
		t.Errorf("Size of the wide one: %d", n)
	}
	if l := expr.Names(deep); !slices.Equal(l, []string{"last"}) {
		t.Errorf("Names of the deep one: %d", len(l))
	}
	if l := expr.Names(wide); !slices.Equal(l, []string{"first", "last"}) {
		t.Errorf("Names of the wide one: %d", len(l))
	}
	if !expr.Same(deep, long()) || !expr.Same(wide, cloned(wide)) {
		t.Error("equal trees are not the same")
	}
	if expr.Same(deep, deep.L[0]) || expr.Same(deep.L[0], deep) || expr.Same(deep, wide) || expr.Same(wide, deep) {
		t.Error("different trees are the same")
	}
	other := wide
	other.L = slices.Clone(wide.L)
	other.L[999998].S = "lost"
	if expr.Same(wide, other) || expr.Same(other, wide) {
		t.Error("trees are the same whose last expressions are not")
	}
	heap := api.Expr{L: slices.Repeat([]api.Expr{{Kind: api.ExSize, S: "v", L: slices.Repeat([]api.Expr{named("i")}, 999)}}, 1000)}
	if n, l := expr.Size(heap), expr.Names(heap); n != 1000001 || len(l) != 1000000 || l[999] != "i" || l[1000] != "v" {
		t.Errorf("Size, Names of a thousand of a thousand: %d, %d", n, len(l))
	}
}

// variants returns expressions that differ from x, which is not changed, in one field.
func variants(x api.Expr) []api.Expr {
	l := slices.Repeat([]api.Expr{x}, 12)
	l[0].Kind++
	l[1].Kind ^= 0x80
	l[2].Oper++
	l[3].Oper ^= 0x80
	l[4].To++
	l[5].To ^= 0x80
	l[6].N++
	l[7].N ^= math.MinInt32
	l[8].S += "x"
	l[9].S += "\x00"
	l[10].L = append(slices.Clone(x.L), api.Expr{})
	l[11].L = append([]api.Expr{number(7)}, x.L...)
	if len(x.L) > 0 {
		less := x
		less.L = x.L[:len(x.L)-1]
		l = append(l, less)
	}
	if len(x.L) > 1 && !equal(x.L[0], x.L[len(x.L)-1]) {
		turned := x
		turned.L = slices.Clone(x.L)
		slices.Reverse(turned.L)
		l = append(l, turned)
	}
	return l
}

// P10.1: a difference in one field, at the root or deep inside, is found.
func TestSameOneField(t *testing.T) {
	odd := api.Expr{Kind: 77, Oper: 88, To: 99, N: -5, S: "odd", L: []api.Expr{{}, {Kind: api.ExNumber, L: []api.Expr{named("a"), named("b"), named("c")}}, {}}}
	for _, x := range []api.Expr{{}, number(1), named("x"), size("x"), deep(32), filled(63, 32, true), two(named("a"), api.OperSub, named("b")), odd, two(odd, api.OperAdd, odd)} {
		was := cloned(x)
		if !expr.Same(x, was) || !expr.Same(was, x) || !expr.Same(x, x) {
			t.Errorf("Same(%s, the same) = false", brief(x))
		}
		changed := cloned(x)
		places(&changed, func(place *api.Expr) {
			for _, v := range variants(*place) {
				*place = v
				if expr.Same(x, changed) || expr.Same(changed, x) {
					t.Errorf("Same(%s, %s) = true", brief(x), brief(changed))
				}
			}
		})
		if !expr.Same(x, changed) || !equal(x, was) {
			t.Errorf("%s has changed", brief(was))
		}
	}
}

// P10.1: trees with the same expressions in other places differ, and nil is the same as empty.
func TestSameShape(t *testing.T) {
	a, b := named("a"), named("b")
	list := func(l ...api.Expr) api.Expr { return api.Expr{L: l} }
	l := []api.Expr{
		list(), list(list()), list(list(), list()), list(list(list())), list(a), list(a, b), list(b, a), list(a, b, a), list(list(a), b), list(a, list(b)), list(list(a, b)), list(list(a, b), list()), list(list(), list(a, b)),
		list(list(a), list(b)), list(list(a), list(), list(b)), two(a, api.OperAdd, two(b, api.OperAdd, a)), two(two(a, api.OperAdd, b), api.OperAdd, a), number(1), char(1), truth(1), size("a"), index("a", b), index("a", a), {Kind: api.ExIndex, S: "a"},
	}
	for i, x := range l {
		for j, y := range l {
			if got := expr.Same(x, cloned(y)); got != (i == j) {
				t.Errorf("Same(%s, %s) = %t", brief(x), brief(y), got)
			}
		}
	}
	if !expr.Same(api.Expr{L: []api.Expr{}}, api.Expr{}) || !expr.Same(list(api.Expr{}), list(api.Expr{L: []api.Expr{}})) {
		t.Error("an empty list is not the same as nil")
	}
	if !expr.Same(named(strings.Clone("somewhere")), named(strings.Clone("somewhere"))) || expr.Same(named(huge), named(huge[1:])) {
		t.Error("names are not compared by their bytes")
	}
}

// P10.1: the word of every number.
func TestWord(t *testing.T) {
	words := slices.Concat(dyadic, monadic)
	if len(words) != 26 {
		t.Fatal(len(words))
	}
	for i := range 256 {
		s, ok := expr.Word(api.Operator(i))
		want := ""
		if 1 <= i && i <= 26 {
			want = words[i-1]
		}
		if s != want || ok != (want != "") {
			t.Errorf("Word(%d) = %q, %t, want %q", i, s, ok, want)
		}
	}
	for o, want := range map[api.Operator]string{api.OperShl: "<<", api.OperRem: "\\", api.OperBitAnd: "/\\", api.OperBitOr: "\\/", api.OperAfter: "AFTER", api.OperNeg: "-", api.OperSub: "-", api.OperMinus: "MINUS", api.OperModNeg: "MINUS", api.OperBitNot: "~", api.OperNot: "NOT"} {
		if s, ok := expr.Word(o); s != want || !ok {
			t.Errorf("Word(%d) = %q, %t, want %q", o, s, ok, want)
		}
	}
}

// R6: what lies behind the lengths of the lists is neither read nor written.
func TestBehindTheLists(t *testing.T) {
	behind := []api.Expr{named("a"), named("b"), {Kind: 255}}
	x := api.Expr{Kind: api.ExMonadic, Oper: api.OperNeg, L: behind[:1]}
	if !expr.May(x) || expr.Size(x) != 2 || !slices.Equal(expr.Names(x), []string{"a"}) || !expr.Same(x, one(api.OperNeg, named("a"))) {
		t.Error("one operand")
	}
	y := api.Expr{Kind: api.ExNumber, L: behind[:0]}
	if !expr.May(y) || expr.Size(y) != 1 || len(expr.Names(y)) != 0 || !expr.Same(y, number(0)) {
		t.Error("no operand")
	}
	if l, e := expr.Tokens(x); len(l) != 2 || e != api.OK {
		t.Error(l, e)
	}
	if behind[1].S != "b" || behind[2].Kind != 255 {
		t.Error("memory behind a length has changed")
	}
}

// R6: the arguments are unchanged, and the names that were returned are new memory.
func TestNamesAreNew(t *testing.T) {
	for _, x := range samples() {
		was := cloned(x)
		want := namesByRules(x)
		l := expr.Names(x)
		for i := range l {
			l[i] = "other"
		}
		_ = append(l[:0], "more", "and", "more")
		expr.May(x)
		expr.Size(x)
		expr.Same(x, was)
		if !equal(x, was) || !slices.Equal(expr.Names(x), want) {
			t.Errorf("%s has changed with its names", brief(was))
		}
	}
}
