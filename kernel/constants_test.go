package kernel_test

import (
	"fmt"
	"strings"
	"testing"

	"transputer/api"
	"transputer/kernel"
)

// lastLine returns the last line of the text of the kernel of a program, or its error.
func lastLine(t *testing.T, s string) string {
	t.Helper()
	k, e := kernel.Make(proc(s))
	if e != api.OK {
		return e.Error()
	}
	lines := strings.Split(textOf(t, k), "|")
	return strings.TrimLeft(lines[len(lines)-1], ".")
}

// checkConstant checks, wherever a constant makes a difference, that an expression of the type INT has this value in a surrounding, in which @ is a process; nil: that it has none.
func checkConstant(t *testing.T, around, e string, want *int32) {
	t.Helper()
	check := func(what, last, wanted string) {
		t.Helper()
		if got := lastLine(t, inside(around, what)); !strings.HasPrefix(got, last) || !strings.HasSuffix(got, wanted) {
			t.Errorf("%s in %s: %s, not %s%s", what, around, got, last, wanted)
		}
	}
	if want == nil {
		check("VAL INT zz IS "+e+":|to.host ! zz", "c1 ! INT v", "")
		check("[9]INT zv:|INT zz IS zv[("+e+")]:|to.host ! zz", "c1 ! INT v", "]")
		check("PROC zp(VAL INT zz)|.to.host ! zz|:|zp("+e+")", "c1 ! INT v", "")
		check("[64]CHAN OF INT zc:|zc[("+e+")] ! 1", api.ErrKernel.Error(), "")
		check("PAR zi = ("+e+") FOR 1|.SKIP", api.ErrConst.Error(), "")
		check("IF zi = 0 FOR ("+e+")|.TRUE|..SKIP", api.ErrConst.Error(), "")
		check("CASE 1|.("+e+")|..STOP", api.ErrConst.Error(), "")
		return
	}
	n := fmt.Sprint(*want)
	check("VAL INT zz IS "+e+":|to.host ! zz", "c1 ! INT ", " "+n)
	check("[9]INT zv:|INT zz IS zv[("+e+")]:|to.host ! zz", "c1 ! INT v", "["+n+"]")
	check("PROC zp(VAL INT zz)|.to.host ! zz|:|zp("+e+")", "c1 ! INT ", " "+n)
	check("PAR zi = ("+e+") FOR 1|.to.host ! zi", "c1 ! INT ", " "+n)
	check("SEQ zi = ("+e+") FOR 1|.to.host ! zi", "c1 ! INT ", " "+n)
	check("CASE 1|.("+e+")|..STOP", "stop", "")
	subscript := api.ErrKernel.Error()
	if 0 <= *want && *want < 50 {
		subscript = "! INT 1"
	}
	check("[50]CHAN OF INT zc:|zc[("+e+")] ! 1", "", subscript)
}

// P16.2: which expressions are constants, by what the names in them stand for, and their values.
func TestConstants(t *testing.T) {
	const around = "VAL INT n IS 3:|VAL BYTE b IS 'A':|VAL BOOL q IS TRUE:|VAL INT m IS n * n:|[7]INT v:|INT x:|BYTE y:|[5]CHAN OF INT h:|VAL INT w IS x:|VAL INT o IS 1 / 0:|VAL BYTE d IS y:|INT xx:|[3]INT vv:|INT a IS xx:|INT e IS vv[2]:|@"
	for s, want := range map[string]int32{
		"0": 0, "#80000000": -1 << 31, "n": 3, "INT b": 65, "INT q": 1, "m": 9, "m + n": 12, "SIZE v": 7, "SIZE h": 5, "(SIZE v) * (SIZE h)": 35, "- n": -3, "INT (b = 'A')": 1, "INT (NOT q)": 0, "INT (BYTE n)": 3, "n PLUS 2147483647": -2147483646, "(n << 2) \\/ 1": 13, "INT (q AND (n > 2))": 1, "7 \\ (- 4)": 3,
	} {
		checkConstant(t, around, s, &want)
	}
	for _, s := range []string{"x", "x + 0", "v[0]", "v[n]", "w", "w - w", "o", "INT d", "INT y", "a", "e", "1 / 0", "n / (n - 3)", "2147483647 + n", "- #80000000", "INT (BYTE 256)", "INT (BOOL n)", "INT (q AND (x > 2))", "x * 0", "INT (FALSE AND (o = 1))"} {
		checkConstant(t, around, s, nil)
	}
}

// P16.2: formals, counters and names that are declared again, as constants.
func TestConstantNames(t *testing.T) {
	for around, want := range map[string]int32{
		"PROC f(VAL INT a)|.@|:|f(5)": 5, "PROC f(VAL INT a)|.@|:|VAL INT a IS 2:|f(a * 3)": 6, "PROC f([6]INT v)|.VAL INT a IS SIZE v:|.@|:|[6]INT u:|f(u)": 6, "PROC f([4]CHAN OF INT v)|.VAL INT a IS SIZE v:|.@|:|[4]CHAN OF INT u:|f(u)": 4,
		"SEQ a = 4 FOR 1|.@": 4, "SEQ a = 4 FOR 3|.@": 6, "PAR a = - 1 FOR 1|.@": -1, "IF a = 7 FOR 1|.TRUE|..@": 7, "ALT a = 9 FOR 1|.TRUE & SKIP|..@": 9, "PRI ALT a = #80000000 FOR 1|.TRUE & SKIP|..@": -1 << 31,
		"VAL INT a IS 1:|VAL INT a IS a + 1:|@": 2, "INT a:|VAL INT a IS 5:|@": 5, "PROC f(VAL INT a)|.PROC g(VAL INT b)|..VAL INT a IS a + b:|..@|.:|.g(a)|:|f(2)": 4,
		"VAL INT a IS 9:|PROC f()|.@|:|INT a:|f()": 9, "VAL INT a IS 9:|PROTOCOL b IS INT:|TIMER c:|@": 9,
	} {
		if strings.HasPrefix(around, "SEQ") { // the last elaboration of the part comes last
			if got := lastLine(t, inside(around, "to.host ! a")); got != fmt.Sprint("c1 ! INT ", want) {
				t.Errorf("%s: %s, not %d", around, got, want)
			}
			continue
		}
		checkConstant(t, around, "a", &want)
	}
	for _, around := range []string{
		"INT x:|PROC f(VAL INT a)|.@|:|f(x)", "PROC f(VAL INT a)|.@|:|f(1 / 0)", "PROC f(INT a)|.@|:|INT x:|f(x)", "PROC f(INT a)|.@|:|[3]INT x:|f(x[0])", "VAL INT a IS 1:|INT a:|@", "VAL INT a IS 1:|PROC f(INT a)|.@|:|INT x:|f(x)",
		"INT x:|VAL INT y IS x:|VAL INT a IS y:|@", "[3]INT x:|INT a IS x[0]:|@", "INT x:|INT a IS x:|@",
	} {
		checkConstant(t, around, "a", nil)
	}
	made(t, "INT x:|SEQ a = 1 FOR x|.VAL INT a IS 3:|.CASE 1|..a|...STOP")
	checkErrors(t, api.ErrConst, "INT x:|SEQ a = 1 FOR x|.CASE 1|..a|...SKIP", "VAL INT a IS 4:|INT x:|SEQ a = 1 FOR x|.PAR i = a FOR 2|..SKIP", "SEQ a = 1 FOR 17|.PAR i = 0 FOR a|..SKIP", "SEQ a = 1 FOR - 1|.PAR i = 0 FOR a|..SKIP", "PAR|.INT a:|.SKIP|.INT a:|.CASE a|..a|...SKIP")
	checkErrors(t, api.ErrKernel, "INT x:|[5]CHAN OF INT c:|SEQ a = 1 FOR x|.c[a] ! 1", "[5]CHAN OF INT c:|SEQ a = 1 FOR 17|.c[a] ! 1")
}

// P16.2: subscripts of channels, wherever a channel can be.
func TestSubscripts(t *testing.T) {
	const around = "PROTOCOL p|.CASE|..t|:|INT x:|VAL INT k IS 2:|[4]CHAN OF INT c:|[4]CHAN OF p d:|[1]CHAN OF INT e:|PROC f(CHAN OF INT g)|.g ! 1|:|PROC s([4]CHAN OF INT g)|.g[@] ! 1|:|"
	for _, src := range []string{"c[@] ! 1", "c[@] ? x", "ALT|.c[@] ? x|..SKIP", "PRI ALT|.TRUE & SKIP|..STOP|.TRUE & c[@] ? x|..SKIP", "d[@] ! t", "d[@] ? CASE|.t|..SKIP", "f(c[@])", "s(c)"} {
		for i, ok := range map[string]bool{"0": true, "1": true, "3": true, "4": false, "- 1": false, "k": true, "k + 1": true, "k * k": false, "2147483647": false, "#80000000": false, "65536 * 65535": false, "x": false, "c1": false, "x - x": false, "1 / 0": false, "SIZE e": true, "SIZE c": false, "BYTE 1": false} {
			program := around + src
			if !strings.Contains(src, "@") {
				program = strings.ReplaceAll(program, "@", i)
			} else {
				program = strings.Replace(strings.Replace(program, "@", "0", 1), "@", i, 1)
			}
			want := api.ErrKernel
			switch {
			case ok:
				want = api.OK
			case i == "c1":
				want = api.ErrScope
			case i == "BYTE 1":
				want = api.ErrTyping
			case i == "SIZE c" && src == "s(c)": // c occurs in the PROC
				want = api.ErrAlias
			}
			if _, e := kernel.Make(proc(program)); e != want {
				t.Errorf("Make(%s): %v, not %v", program, e, want)
			}
		}
	}
	checkErrors(t, api.ErrKernel, "[1]CHAN OF INT e:|e[1] ! 1", "[64]CHAN OF INT e:|e[64] ! 1", "INT x:|[2]CHAN OF INT e:|PROC f(VAL INT n, CHAN OF INT c)|.c ! n|:|f(1, e[x])")
	checkRoots(t, [][2]string{{"[2]CHAN OF INT c:|[60]CHAN OF INT d:|SEQ|.d[0] ! 1|.d[59] ! 2|.c[1] ! 3", "seq|.c4 ! INT 1|.c63 ! INT 2|.c3 ! INT 3"}, {"[3]CHAN OF INT c:|SEQ i = - 1 FOR 3|.c[i + 1] ! i", "seq|.c2 ! INT -1|.c3 ! INT 0|.c4 ! INT 1"}})
}
