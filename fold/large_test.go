package fold_test

import (
	"slices"
	"strconv"
	"testing"

	"transputer/api"
)

const million = 1 << 20

// chain returns n constants behind one that is 1, each of which is the expression of the text, where x is the one before it.
func chain(n int, text string) []api.Spec {
	l := []api.Spec{spec(api.SpVal, api.TyInt, number(1), "n0")}
	for i := range n {
		l = append(l, spec(api.SpVal, api.TyInt, named(value(text), "n"+strconv.Itoa(i)), "n"+strconv.Itoa(i+1)))
	}
	return l
}

// named returns an expression with another name in all places.
func named(x api.Expr, name string) api.Expr {
	if x.S != "" {
		x.S = name
	}
	parts := slices.Clone(x.L)
	for i := range parts {
		parts[i] = named(parts[i], name)
	}
	x.L = parts
	return x
}

// P14.4: the number of ways in which names lead to each other does not count.
func TestChains(t *testing.T) {
	for text, want := range map[string]int32{"x PLUS x": 0, "(x TIMES x) PLUS (x MINUS 1)": 1, "((x PLUS x) MINUS x) PLUS 1": 701, "x - x": 0, "x TIMES (MINUS x)": -1} {
		for _, n := range []int{700} {
			l := chain(n, text)
			last := value("n" + strconv.Itoa(n))
			checkValue(t, last, l, want)
			checkFold(t, last, l, number(want))
			checkFold(t, binary(api.OperAdd, value("u"), binary(api.OperTimes, last, last)), l, binary(api.OperAdd, value("u"), number(int32(wrapped(int64(want)*int64(want))))))
		}
	}
	checkNone(t, value("n700"), chain(700, "(x + x) + u[x]"))
	checkNone(t, value("n700"), chain(700, "x + x"))
	wideChain := chain(300, "x")
	for i := range wideChain[1:] {
		wideChain[i+1].E = wide(7, wideChain[i+1].E)
	}
	checkValue(t, value("n300"), wideChain, 0)
	checkValue(t, value("n4 + n1"), wideChain, 1<<28+1<<7)
}

// P14.2, P14.3, R1: environments of a million specifications.
func TestManySpecifications(t *testing.T) {
	l := chain(million, "x PLUS 1")
	last := value("n" + strconv.Itoa(million))
	checkValue(t, last, l, million+1)
	checkFold(t, binary(api.OperAdd, value("u"), last), l, binary(api.OperAdd, value("u"), number(million+1)))
	checkConst(t, l, map[string]int32{"n0": 1, "n7": 8, "7": 7}, "u", "u + n7")

	counted := slices.Repeat(env("VAL INT x IS x PLUS 1:"), million)
	checkNone(t, value("x"), counted)
	checkValue(t, value("x"), append(env("VAL INT x IS 0:"), counted...), million)

	var names []string
	for i := range million {
		names = append(names, "n"+strconv.Itoa(i%(million/2)))
	}
	l = []api.Spec{spec(api.SpVal, api.TyInt, number(4), "x"), spec(api.SpVal, api.TyByte, value("x"), names...), array(7, names[:1000]...), array(9, slices.Repeat([]string{"y"}, million)...)}
	checkConst(t, l, map[string]int32{"n1000 + (SIZE n999)": 11, "SIZE y": 9, "n" + strconv.Itoa(million/2-1): 4}, "n999", "y", "n"+strconv.Itoa(million/2))
}

// P14.2, P14.3, R1: expressions of a million parts, and ones in themselves, in specifications that are needed or not.
func TestLargeSpecifications(t *testing.T) {
	around := make([]api.Expr, 2)
	around[0], around[1] = binary(api.OperAdd, number(1), number(1)), number(1)
	around[0].L = around
	for _, x := range []api.Expr{deep(million, value("x")), wide(20, value("x")), {Kind: api.ExMonadic, Oper: api.OperNeg, L: make([]api.Expr, million)}, around[0]} {
		l := append(env("VAL INT x IS 2:"), slices.Repeat([]api.Spec{spec(api.SpVal, api.TyInt, x, "a"), spec(api.SpVal, api.TyInt, x, "b")}, 10000)...)
		checkConst(t, l, map[string]int32{"x": 2}, "a", "b", "a + x")
		checkFolds(t, l, map[string]string{"(a + x) + (x + x)": "(a + 2) + 4"})
	}
}
