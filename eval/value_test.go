package eval_test

import (
	"strings"
	"testing"

	"transputer/api"
	"transputer/expr"
)

// P17.2: numbers, variables and elements.
func TestLeaves(t *testing.T) {
	s := storeOf("7; 1 2 3;; -9; 2147483647 -2147483648")
	checkValues(t, s, map[string]int32{"0": 0, "1": 1, "-1": -1, "2147483647": most, "-2147483648": least, "v0": 7, "v1": 1, "v3": -9, "v4": most, "v0[0]": 7, "v1[0]": 1, "v1[1]": 2, "v1[2]": 3, "v3[0]": -9, "v4[1]": least, "v1[v1[v1]]": 3, "v1[v1[0]]": 2, "v4[v1 - 0]": least})
	checkFaults(t, s, "v2", "v2[0]", "v5", "v5[0]", "v255", "v255[0]", "v1[3]", "v1[-1]", "v1[4]", "v1[2147483647]", "v1[-2147483648]", "v0[1]", "v0[-1]", "v2[-1]", "v1[v0]", "v1[v3]", "v1[v2]", "v1[v1[3]]", "v1[v5]", "v1[1 / 0]", "v2[1 / 0]", "v5[1 / 0]", "v1[BOOL 2]")
	checkValues(t, nil, map[string]int32{"5": 5})
	checkFaults(t, nil, "v0", "v0[0]", "v1")
	checkFaults(t, [][]int32{{}}, "v0", "v0[0]", "v0[-1]")
}

// P17.2: the numbers of variables, which are valid from 0 to 255 whatever lists the store has.
func TestVariableNumbers(t *testing.T) {
	for _, lists := range []int{0, 1, 2, 254, 255, 256, 257, 300} {
		var s [][]int32
		for v := range lists {
			s = append(s, []int32{int32(v) + 1000, int32(v) + 2000})
		}
		for _, v := range []int{-1 << 63, -1 << 32, -256, -1, 0, 1, 253, 254, 255, 256, 257, 299, 1 << 32, 1<<63 - 1} {
			if 0 <= v && v < min(lists, 256) {
				checkValue(t, s, variable(v), int32(v)+1000)
				checkValue(t, s, elem(v, number(0)), int32(v)+1000)
				checkValue(t, s, elem(v, number(1)), int32(v)+2000)
			} else {
				checkFault(t, s, variable(v))
				checkFault(t, s, elem(v, number(0)))
			}
			checkFault(t, s, elem(v, number(2)))
			checkFault(t, s, elem(v, number(-1)))
		}
	}
}

// P17.2: the index of an element is an index of its list, of any length.
func TestIndexes(t *testing.T) {
	for n := range 70 {
		l := make([]int32, n)
		for i := range l {
			l[i] = int32(100 + i)
		}
		for i := int32(-2); i < 80; i++ {
			if s := [][]int32{{8}, l, {9, i}}; 0 <= i && int(i) < n {
				checkValue(t, s, elem(1, number(i)), 100+i)
				checkValue(t, s, elem(1, kexpr("v2[1]")), 100+i)
			} else {
				checkFault(t, s, elem(1, number(i)))
				checkFault(t, s, elem(1, kexpr("v2[1]")))
			}
		}
	}
}

// operations are, for each operator, an expression with its value, and expressions in which it has none.
var operations = []struct {
	value  string
	want   int32
	faults string
}{
	{"2147483640 + 7", most, "2147483640 + 8; -2147483648 + -1"},
	{"-2147483640 - 8", least, "-2147483640 - 9; 0 - -2147483648"},
	{"46340 * 46340", 2147395600, "46341 * 46341; -2147483648 * -1"},
	{"-7 / 2", -3, "7 / 0; 0 / 0; -2147483648 / -1"},
	{"-7 \\ 2", -1, "7 \\ 0; 0 \\ 0"},
	{"2147483647 PLUS 1", least, ""},
	{"-2147483648 MINUS 1", most, ""},
	{"65536 TIMES 32768", least, ""},
	{"12 /\\ 10", 8, ""},
	{"12 \\/ 10", 14, ""},
	{"12 >< 10", 6, ""},
	{"1 << 31", least, ""},
	{"-1 >> 31", 1, ""},
	{"3 = 3", 1, ""},
	{"3 <> 3", 0, ""},
	{"-3 < 3", 1, ""},
	{"-3 > 3", 0, ""},
	{"3 <= 3", 1, ""},
	{"2 >= 3", 0, ""},
	{"1 AND 1", 1, "1 AND 2; 2 AND 1; 2 AND 0; -1 AND 1; 1 AND -1; 3 AND 3"},
	{"0 OR 1", 1, "0 OR 2; 2 OR 0; 2 OR 1; -1 OR 0; 0 OR -1; 3 OR 3"},
	{"-2147483648 AFTER 2147483647", 1, ""},
	{"- -2147483647", most, "- -2147483648"},
	{"MINUS -2147483648", least, ""},
	{"~ 5", -6, ""},
	{"NOT 0", 1, "NOT 2; NOT -1; NOT -2147483648"},
}

// withOperands returns an operation with other operands than its numbers.
func withOperands(x api.KExpr, operands ...api.KExpr) api.KExpr {
	x.L = operands
	return x
}

// P17.2: each operator with operands for which it has a value and for which it has none, and with a fault in each operand.
func TestOperators(t *testing.T) {
	for i, c := range operations {
		x := kexpr(c.value)
		if x.Oper != api.OperAdd+api.Operator(i) {
			word, _ := expr.Word(x.Oper)
			t.Fatalf("%s is at the place of another operator than %s", c.value, word)
		}
		checkValue(t, nil, x, c.want)
		if c.faults != "" {
			checkFaults(t, nil, strings.Split(c.faults, "; ")...)
		}
		for _, fault := range []string{"1 / 0", "v3", "v0[2]", "v0[1 / 0]", "BOOL 2", "NOT 2", "2147483647 + 1"} {
			bad := kexpr(fault)
			if len(x.L) == 1 {
				checkFault(t, storeOf("5 6"), withOperands(x, bad))
				continue
			}
			checkFault(t, storeOf("5 6"), withOperands(x, bad, x.L[1]))
			checkFault(t, storeOf("5 6"), withOperands(x, x.L[0], bad))
			checkFault(t, storeOf("5 6"), withOperands(x, bad, bad))
		}
	}
}

// P17.2: operands are values of variables, elements and operators, too, in their order.
func TestOperands(t *testing.T) {
	s := storeOf("7; 1 2 3; 0")
	checkValues(t, s, map[string]int32{"v0 - v1": 6, "v1 - v0": -6, "v1[2] << v1[1]": 12, "v1[1] << v1[2]": 16, "(v0 - 1) / (v1 + 1)": 3, "(v1 + 1) / (v0 - 1)": 0, "v0 \\ v1[2]": 1, "v1[2] \\ v0": 3, "- (v0 * v0)": -49, "NOT (v0 = 7)": 0, "v0 > v1": 1, "v1 > v0": 0, "v0 AFTER v1": 1, "v1 AFTER v0": 0, "(- v0) + (~ v2)": -8, "v1[v0 - 5] * (v0 + (v1[1] * 2))": 33})
}

// P17.2: AND and OR look at their second operand only if the first one leaves it open.
func TestTruths(t *testing.T) {
	s := storeOf("0; 1; 5")
	for _, second := range []string{"0", "1", "2", "-1", "v2", "1 / 0", "v9", "BOOL 2", "NOT 5", "v0[1]", "2 AND 1"} {
		for _, first := range []string{"0", "v0", "v0 = 1", "BOOL 0", "NOT v1", "0 AND (1 / 0)", "INT v0"} {
			checkValue(t, s, binary(api.OperAnd, kexpr(first), kexpr(second)), 0)
		}
		for _, first := range []string{"1", "v1", "v0 = 0", "BOOL 1", "NOT v0", "1 OR (1 / 0)", "INT v1"} {
			checkValue(t, s, binary(api.OperOr, kexpr(first), kexpr(second)), 1)
		}
		for _, first := range []string{"2", "-1", "v2", "256", "-2147483648", "1 / 0", "v9", "NOT 5", "BOOL 5", "2 OR 1"} {
			checkFault(t, s, binary(api.OperAnd, kexpr(first), kexpr(second)))
			checkFault(t, s, binary(api.OperOr, kexpr(first), kexpr(second)))
		}
	}
	for _, second := range []string{"2", "-1", "v2", "1 / 0", "v9", "BOOL 2", "NOT 5", "v0[1]", "2 AND 1"} {
		checkFault(t, s, binary(api.OperAnd, number(1), kexpr(second)))
		checkFault(t, s, binary(api.OperOr, number(0), kexpr(second)))
	}
	checkValues(t, s, map[string]int32{"1 AND 0": 0, "1 AND 1": 1, "0 OR 0": 0, "0 OR 1": 1, "v1 AND v1": 1, "v1 AND v0": 0, "v0 OR v0": 0, "v0 OR v1": 1})
	// Other operators have no value that they do not need their second operand for.
	for _, o := range []api.Operator{api.OperMul, api.OperTimes, api.OperBitAnd, api.OperBitOr, api.OperShl, api.OperShr} {
		for _, first := range []int32{0, 1, -1} {
			checkFault(t, s, binary(o, number(first), kexpr("1 / 0")))
		}
	}
}

// P17.2: conversions to each kind.
func TestConversions(t *testing.T) {
	for _, x := range []int32{least, -257, -256, -255, -2, -1, 0, 1, 2, 3, 127, 128, 254, 255, 256, 257, 511, 512, 65536, most} {
		for _, k := range kinds {
			for _, operand := range []api.KExpr{number(x), variable(1), elem(0, number(2)), kexpr("v1 PLUS 0")} {
				if s := [][]int32{{0, 1, x}, {x}}; isOfKind(k, x) {
					checkValue(t, s, convert(k, operand), x)
				} else {
					checkFault(t, s, convert(k, operand))
				}
			}
		}
	}
	for _, k := range kinds {
		for _, fault := range []string{"1 / 0", "v0", "BOOL 2", "BYTE 256", "0 OR 2"} {
			checkFault(t, nil, convert(k, kexpr(fault)))
		}
	}
	checkValues(t, storeOf("7"), map[string]int32{"BYTE (v0 TIMES 36)": 252, "BOOL (v0 - 6)": 1, "INT (BYTE 255)": 255, "BYTE (BOOL 1)": 1, "BOOL (BYTE (INT 0))": 0})
	checkFaults(t, storeOf("7"), "BYTE (v0 TIMES 37)", "BOOL (v0 - 5)", "BOOL (BYTE 2)", "INT (BYTE -1)")
}
