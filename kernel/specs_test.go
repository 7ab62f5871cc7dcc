package kernel_test

import (
	"fmt"
	"strings"
	"testing"

	"transputer/api"
)

// checkWhole checks the whole texts of the kernels of some programs.
func checkWhole(t *testing.T, l [][2]string) {
	t.Helper()
	for _, c := range l {
		checkMade(t, proc(c[0]), c[1])
	}
}

// P16.2: the rows of the table of specifications.
func TestSpecifications(t *testing.T) {
	checkWhole(t, [][2]string{
		{"INT x:|SKIP", "v0 INT|c0 in|c1 out|seq|.clear v0|.skip"}, {"BYTE x, y:|STOP", "v0 BYTE|v1 BYTE|c0 in|c1 out|seq|.clear v0|.clear v1|.stop"}, {"BOOL x:|SEQ", "v0 BOOL|c0 in|c1 out|seq|.clear v0|.skip"},
		{"[4]INT x, y:|[1]BYTE z:|[64]BOOL u:|SKIP", "v0 [4]INT|v1 [4]INT|v2 [1]BYTE|v3 [64]BOOL|c0 in|c1 out|seq|.clear v0|.clear v1|.clear v2|.clear v3|.skip"},
		{"CHAN OF INT c:|c ! 1", "c0 in|c1 out|c2|c2 ! INT 1"}, {"CHAN OF BYTE c, d:|d ! 'a'", "c0 in|c1 out|c2|c3|c3 ! BYTE 97"}, {"[3]CHAN OF INT c, d:|PAR|.c[2] ! 1|.d[0] ! 2", "c0 in|c1 out|c2|c3|c4|c5|c6|c7|par|.c4 ! INT 1|.c5 ! INT 2"},
		{"[1]CHAN OF INT c:|CHAN OF INT d:|d ! 1", "c0 in|c1 out|c2|c3|c3 ! INT 1"}, {"TIMER t, u:|SKIP", "c0 in|c1 out|skip"}, {"PROTOCOL p IS INT:|SKIP", "c0 in|c1 out|skip"}, {"PROC p(INT x)|.INT y:|.y := x|:|SKIP", "c0 in|c1 out|skip"},
		{"VAL INT k IS 5:|to.host ! k", "c0 in|c1 out|c1 ! INT 5"}, {"VAL BYTE k IS 'a':|VAL BOOL l IS k = 'b':|to.host ! INT l", "c0 in|c1 out|c1 ! INT INT 0"},
		{"INT x:|VAL INT k IS x + 1:|to.host ! k", "v0 INT|v1 INT|c0 in|c1 out|seq|.clear v0|.v1 := v0 + 1|.c1 ! INT v1"}, {"VAL INT k IS 1 / 0:|to.host ! k", "v0 INT|c0 in|c1 out|seq|.v0 := 1 / 0|.c1 ! INT v0"},
		{"VAL BYTE k IS BYTE 256:|VAL BOOL l IS k = k:|SKIP", "v0 BYTE|v1 BOOL|c0 in|c1 out|seq|.v0 := BYTE 256|.v1 := v0 = v0|.skip"}, {"VAL INT k IS 2147483647 + 1:|SKIP", "v0 INT|c0 in|c1 out|seq|.v0 := 2147483647 + 1|.skip"},
		{"INT x:|INT y IS x:|y := y + 1", "v0 INT|c0 in|c1 out|seq|.clear v0|.v0 := v0 + 1"}, {"[4]INT v:|INT x IS v[1 + 1]:|x := x", "v0 [4]INT|c0 in|c1 out|seq|.clear v0|.v0[2] := v0[2]"},
		{"[4]BYTE v:|INT i:|BYTE x IS v[i + 1]:|x := x", "v0 [4]BYTE|v1 INT|v2 INT|c0 in|c1 out|seq|.clear v0|.clear v1|.v2 := v1 + 1|.v0[v2] := v0[v2]"},
	})
}

// P16.2: what an abbreviation stands for, by what it abbreviates.
func TestAbbreviations(t *testing.T) {
	const around = "[4]INT v:|INT i:|[8]BOOL w:|VAL INT n IS 2:|"
	const clears = "seq|.clear v0|.clear v1|.clear v2|"
	for src, want := range map[string]string{
		"INT x IS i:|INT y IS x:|INT z IS y:|z := z + 1":                   ".v1 := v1 + 1",
		"INT x IS v[n]:|INT y IS x:|y := y":                                ".v0[2] := v0[2]",
		"INT x IS v[n * n]:|x := x":                                        ".v0[4] := v0[4]",
		"INT x IS v[- n]:|x := 1":                                          ".v0[-2] := 1",
		"INT x IS v[1 / 0]:|x := 1":                                        ".v3 := 1 / 0|.v0[v3] := 1",
		"INT x IS v[i]:|INT y IS x:|SEQ|.y := 1|.y := y":                   ".v3 := v1|.v0[v3] := 1|.v0[v3] := v0[v3]",
		"BOOL b IS w[SIZE v]:|b := NOT b":                                  ".v2[4] := NOT v2[4]",
		"BOOL b IS w[v[i]]:|b := NOT b":                                    ".v3 := v0[v1]|.v2[v3] := NOT v2[v3]",
		"INT x IS v[0]:|BOOL b IS w[x]:|b := TRUE":                         ".v3 := v0[0]|.v2[v3] := 1",
		"INT x IS v[i]:|BOOL b IS w[x]:|BOOL c IS b:|c := TRUE":            ".v3 := v1|.v4 := v0[v3]|.v2[v4] := 1",
		"VAL INT k IS i:|INT x IS v[k]:|x := k":                            ".v3 := v1|.v4 := v3|.v0[v4] := v3",
		"VAL INT k IS n:|INT x IS v[k]:|x := k":                            ".v0[2] := 2",
		"SEQ j = 0 FOR 2|.INT x IS v[j]:|.x := j":                          ".v0[0] := 0|.v0[1] := 1",
		"SEQ j = 0 FOR i|.INT x IS v[j]:|.x := j":                          ".v3, v4 := 0, v1|.while v4 > 0|..seq|...v5 := v3|...v0[v5] := v3|...v3, v4 := v3 PLUS 1, v4 MINUS 1",
		"INT x IS v[i]:|INT y IS i:|SKIP":                                  ".v3 := v1|.skip",
		"INT x IS v[1]:|from.host ? x":                                     ".c0 ? INT v0[1]",
		"INT x IS v[i]:|ALT|.from.host ? x|..to.host ! x":                  ".v3 := v1|.alt|..1 & c0 ? INT v0[v3]|...c1 ! INT v0[v3]",
		"TIMER t:|INT x IS v[1]:|SEQ|.t ? x|.t ? AFTER x":                  ".time v0[1]|.after v0[1]",
		"INT x IS v[i]:|x, w[0] := x + x, w[x] = w[0]":                     ".v3 := v1|.v0[v3], v2[0] := v0[v3] + v0[v3], v2[v0[v3]] = v2[0]",
		"INT x IS i:|SEQ j = x FOR 2|.SKIP":                                ".v3, v4 := v1, 2|.while v4 > 0|..seq|...skip|...v3, v4 := v3 PLUS 1, v4 MINUS 1",
		"INT x IS v[3]:|VAL INT k IS x:|WHILE x > k|.SKIP":                 ".v3 := v0[3]|.while v0[3] > v3|..skip",
		"INT x IS v[3]:|CASE x|.1|..SKIP":                                  ".v3 := v0[3]|.if|..v3 = 1|...skip",
		"BOOL b IS w[7]:|CASE INT b|.1|..SKIP":                             ".v3 := INT v2[7]|.if|..v3 = 1|...skip",
		"BOOL b IS w[8]:|b := FALSE":                                       ".v2[8] := 0",
		"INT x IS v[2147483647]:|x := SIZE w":                              ".v0[2147483647] := 8",
		"PROC p(INT a)|.INT b IS a:|.b := b|:|SEQ|.p(i)|.p(v[0])|.p(v[i])": ".v1 := v1|.v0[0] := v0[0]|.v3 := v1|.v0[v3] := v0[v3]",
	} {
		checkRoots(t, [][2]string{{around + src, clears + want}})
	}
}

// P16.2: names that are declared again, and what they stand for behind that.
func TestScopes(t *testing.T) {
	checkWhole(t, [][2]string{
		{"INT x:|SEQ|.x := 1|.INT x:|.x := 2|.x := 3", "v0 INT|v1 INT|c0 in|c1 out|seq|.clear v0|.v0 := 1|.clear v1|.v1 := 2|.v0 := 3"},
		{"VAL INT x IS 5:|VAL INT x IS x + 1:|to.host ! x", "c0 in|c1 out|c1 ! INT 6"},
		{"VAL INT x IS 5:|SEQ|.VAL INT x IS x + 1:|.to.host ! x|.to.host ! x", "c0 in|c1 out|seq|.c1 ! INT 6|.c1 ! INT 5"},
		{"INT x:|VAL INT x IS x:|to.host ! x", "v0 INT|v1 INT|c0 in|c1 out|seq|.clear v0|.v1 := v0|.c1 ! INT v1"},
		{"[3]INT x:|INT y:|INT x IS x[y]:|to.host ! x", "v0 [3]INT|v1 INT|v2 INT|c0 in|c1 out|seq|.clear v0|.clear v1|.v2 := v1|.c1 ! INT v0[v2]"},
		{"VAL INT x IS 3:|SEQ|.SEQ x = x FOR x|..to.host ! x|.to.host ! x", "c0 in|c1 out|seq|.c1 ! INT 3|.c1 ! INT 4|.c1 ! INT 5|.c1 ! INT 3"},
		{"CHAN OF INT to.host:|to.host ! 1", "c0 in|c1 out|c2|c2 ! INT 1"}, {"SEQ|.INT from.host:|.from.host := 1|.INT x:|.from.host ? x", "v0 INT|v1 INT|c0 in|c1 out|seq|.clear v0|.v0 := 1|.clear v1|.c0 ? INT v1"},
		{"PROTOCOL p IS INT:|CHAN OF p p:|p ! 3", "c0 in|c1 out|c2|c2 ! INT 3"}, {"PROTOCOL p IS INT; INT:|CHAN OF p c:|PROTOCOL p IS BYTE:|CHAN OF p d:|PAR|.c ! 1; 2|.d ! 'a'", "c0 in|c1 out|c2|c3|par|.seq|..c2 ! INT 1|..c2 ! INT 2|.c3 ! BYTE 97"},
		{"PROTOCOL p|.CASE|..a|..b|:|CHAN OF p c:|PROTOCOL p|.CASE|..b|..a|:|CHAN OF p d:|INT a:|PAR|.c ! a|.d ! a", "v0 INT|c0 in|c1 out|c2|c3|seq|.clear v0|.par|..c2 ! BYTE 0|..c3 ! BYTE 1"},
		{"VAL INT n2 IS 7:|INT n1:|SEQ|.INT n1:|.n1 := n2|.n1 := n2", "v0 INT|v1 INT|c0 in|c1 out|seq|.clear v0|.clear v1|.v1 := 7|.v0 := 7"},
	})
	checkErrors(t, api.ErrAlias, "INT n1, n2:|VAL INT n1 IS n2:|n2 := 1")
}

// P16.2: formals, and what names stand for at the instance and where the PROC was specified.
func TestFormals(t *testing.T) {
	checkRoots(t, [][2]string{
		{"PROC f()|.STOP|:|f()", "stop"}, {"PROC f(VAL INT a)|.to.host ! a|:|SEQ|.f(1)|.f(2 * 3)", "seq|.c1 ! INT 1|.c1 ! INT 6"},
		{"PROC f(VAL INT a)|.to.host ! a + a|:|INT x:|SEQ|.f(x)|.f(x + 1)", "seq|.clear v0|.v1 := v0|.c1 ! INT v1 + v1|.v2 := v0 + 1|.c1 ! INT v2 + v2"},
		{"PROC f(VAL BYTE a, VAL BOOL b)|.WHILE b|..to.host ! INT a|:|BYTE y:|SEQ|.f('a', TRUE)|.f(y, y = 'b')", "seq|.clear v0|.while 1|..c1 ! INT INT 97|.v1 := v0|.v2 := v0 = 98|.while v2|..c1 ! INT INT v1"},
		{"PROC f(INT a, BYTE b, BOOL c)|.a, b, c := 1, '2', TRUE|:|INT x:|[2]BYTE y:|BOOL z:|INT i:|SEQ|.f(x, y[0], z)|.f(x, y[i], z)", "seq|.clear v0|.clear v1|.clear v2|.clear v3|.v0, v1[0], v2 := 1, 50, 1|.v4 := v3|.v0, v1[v4], v2 := 1, 50, 1"},
		{"PROC f([3]INT a, INT i)|.INT x IS a[i]:|.x := i|:|[3]INT v:|INT k:|f(v, k)", "seq|.clear v0|.clear v1|.v2 := v1|.v0[v2] := v1"},
		{"PROC f(CHAN OF INT c)|.c ! 1|:|CHAN OF INT d:|[3]CHAN OF INT e:|SEQ|.f(d)|.f(e[0])|.f(e[1 + 1])|.f(to.host)", "seq|.c2 ! INT 1|.c3 ! INT 1|.c5 ! INT 1|.c1 ! INT 1"},
		{"PROC f([3]CHAN OF INT c, VAL INT n)|.c[n] ! SIZE c|:|CHAN OF INT d:|[3]CHAN OF INT e:|SEQ|.f(e, 0)|.f(e, 2)", "seq|.c3 ! INT 3|.c5 ! INT 3"},
		{"PROC f([3]CHAN OF INT c)|.PROC g([3]CHAN OF INT d)|..d[1] ! 1|.:|.PROC h(CHAN OF INT d)|..d ! 2|.:|.SEQ|..g(c)|..h(c[2])|:|[2]CHAN OF INT z:|[3]CHAN OF INT e:|f(e)", "seq|.c5 ! INT 1|.c6 ! INT 2"},
		{"PROC f(TIMER t, INT x)|.SEQ|..t ? x|..t ? AFTER x|:|TIMER u:|INT y:|f(u, y)", "seq|.clear v0|.time v0|.after v0"},
		{"PROTOCOL p|.CASE|..a; INT|..b|:|PROC f(CHAN OF p c, VAL INT x)|.SEQ|..c ! a; x|..c ! b|:|CHAN OF p d:|[2]CHAN OF p e:|SEQ|.f(d, 1)|.f(e[1], 2)", "seq|.c2 ! BYTE 0|.c2 ! INT 1|.c2 ! BYTE 1|.c4 ! BYTE 0|.c4 ! INT 2|.c4 ! BYTE 1"},
		{"VAL INT n IS 1:|PROC f()|.to.host ! n|:|VAL INT n IS 2:|SEQ|.f()|.to.host ! n", "seq|.c1 ! INT 1|.c1 ! INT 2"},
		{"INT x:|PROC f(INT y)|.x := y|:|INT x:|f(x)", "seq|.clear v0|.clear v1|.v0 := v1"},
		{"PROC f(VAL INT x, VAL INT y)|.to.host ! x - y|:|VAL INT x IS 1:|VAL INT y IS 2:|f(y, x)", "c1 ! INT 2 - 1"},
		{"PROC f(INT x, INT y)|.x := y|:|INT x:|INT y:|f(y, x)", "seq|.clear v0|.clear v1|.v1 := v0"},
		{"PROC f(VAL INT n)|.to.host ! n|:|PROC f(VAL INT n)|.SEQ|..f(n + 1)|..to.host ! n|:|PROC f(VAL INT m)|.f(m * 2)|:|f(5)", "seq|.c1 ! INT 11|.c1 ! INT 10"},
		{"PROC f(VAL INT n)|.PROC g()|..to.host ! n|.:|.SEQ|..g()|..VAL INT n IS n + 1:|..SEQ|...g()|...to.host ! n|:|SEQ|.f(3)|.f(7)", "seq|.c1 ! INT 3|.c1 ! INT 3|.c1 ! INT 4|.c1 ! INT 7|.c1 ! INT 7|.c1 ! INT 8"},
		{"SEQ i = 1 FOR 2|.PROC f(VAL INT k)|..to.host ! (k * 10) + i|.:|.SEQ i = 5 FOR 2|..f(i)", "seq|.c1 ! INT (5 * 10) + 1|.c1 ! INT (6 * 10) + 1|.c1 ! INT (5 * 10) + 2|.c1 ! INT (6 * 10) + 2"},
		{"PROC f(VAL INT n)|.SEQ i = 0 FOR n|..to.host ! i|:|INT x:|SEQ|.f(2)|.f(x)", "seq|.clear v0|.c1 ! INT 0|.c1 ! INT 1|.v1 := v0|.v2, v3 := 0, v1|.while v3 > 0|..seq|...c1 ! INT v2|...v2, v3 := v2 PLUS 1, v3 MINUS 1"},
		{"PROC f([2]INT v)|.v[0] := v[v[0] - (SIZE v)]|:|[2]INT a, b:|SEQ|.f(b)|.f(a)", "seq|.clear v0|.clear v1|.v1[0] := v1[v1[0] - 2]|.v0[0] := v0[v0[0] - 2]"},
		{"PROC f(INT a)|.INT b:|.a := b|:|INT x:|SEQ|.f(x)|.f(x)", "seq|.clear v0|.clear v1|.v0 := v1|.clear v2|.v0 := v2"},
		{"PROC f(VAL INT a, VAL INT b, VAL INT c, VAL INT d)|.to.host ! ((a + b) + c) + d|:|INT x:|f(x, 1, x * 2, 3)", "seq|.clear v0|.v1 := v0|.v2 := v0 * 2|.c1 ! INT ((v1 + 1) + v2) + 3"},
		{"PROC f(INT a, VAL INT b, INT c)|.a, c := b, b|:|[2]INT v:|[2]INT w:|INT i:|f(v[i], i, w[i + 1])", "seq|.clear v0|.clear v1|.clear v2|.v3 := v2|.v4 := v2|.v5 := v2 + 1|.v0[v3], v1[v5] := v4, v4"},
		{"PROC f(CHAN OF INT from.host)|.from.host ! 1|:|f(to.host)", "c1 ! INT 1"},
	})
}

// P16.2: new variables and channels get their numbers in the order of the program, also in one process with many of them.
func TestNumbers(t *testing.T) {
	checkWhole(t, [][2]string{
		{"INT a, b:|PROC f(VAL INT p, INT q, VAL INT r)|.INT s:|.CHAN OF INT c:|.CASE q|..1|...VAL INT u IS s:|...c ! u|..2|...BYTE w:|...SKIP|:|[3]INT v:|CHAN OF INT d:|SEQ|.f(a, v[b], b)|.SEQ i = a FOR b|..[2]CHAN OF INT e:|..BOOL z:|..e[1] ! i|.INT last:|.CHAN OF INT end:|.end ! last",
			"v0 INT|v1 INT|v2 [3]INT|v3 INT|v4 INT|v5 INT|v6 INT|v7 INT|v8 INT|v9 BYTE|v10 INT|v11 INT|v12 BOOL|v13 INT|c0 in|c1 out|c2|c3|c4|c5|c6|seq|.clear v0|.clear v1|.clear v2|.v3 := v0|.v4 := v1|.v5 := v1|.clear v6|.v7 := v2[v4]|.if|..v7 = 1|...seq|....v8 := v6|....c3 ! INT v8|..v7 = 2|...seq|....clear v9|....skip|.v10, v11 := v0, v1|.while v11 > 0|..seq|...clear v12|...c5 ! INT v10|...v10, v11 := v10 PLUS 1, v11 MINUS 1|.clear v13|.c6 ! INT v13"},
		{"PAR|.INT a:|.a := 1|.PAR|..INT b:|..b := 2|..BYTE c, d:|..c := d|.[2]INT e:|.e[0] := 1", "v0 INT|v1 INT|v2 BYTE|v3 BYTE|v4 [2]INT|c0 in|c1 out|par|.seq|..clear v0|..v0 := 1|.par|..seq|...clear v1|...v1 := 2|..seq|...clear v2|...clear v3|...v2 := v3|.seq|..clear v4|..v4[0] := 1"},
		{"INT x:|ALT|.from.host ? x|..INT a:|..a := x|.TRUE & SKIP|..INT b:|..IF|...b = 1|....INT c:|....c := 1|...TRUE|....INT d:|....d := 2", "v0 INT|v1 INT|v2 INT|v3 INT|v4 INT|c0 in|c1 out|seq|.clear v0|.alt|..1 & c0 ? INT v0|...seq|....clear v1|....v1 := v0|..1 & skip|...seq|....clear v2|....if|.....v2 = 1|......seq|.......clear v3|.......v3 := 1|.....1|......seq|.......clear v4|.......v4 := 2"},
		{"PAR i = 0 FOR 2|.CHAN OF INT c:|.INT x:|.PAR|..c ! i|..c ? x", "v0 INT|v1 INT|c0 in|c1 out|c2|c3|par|.seq|..clear v0|..par|...c2 ! INT 0|...c2 ? INT v0|.seq|..clear v1|..par|...c3 ! INT 1|...c3 ? INT v1"},
		{"PRI PAR|.INT a:|.a := 1|.PROTOCOL p|..CASE|...t; INT|.:|.CHAN OF p c:|.INT b:|.c ? CASE|..t; b|...INT d:|...d := b", "v0 INT|v1 INT|v2 BYTE|v3 INT|c0 in|c1 out|c2|pri par|.seq|..clear v0|..v0 := 1|.seq|..clear v1|..c2 ? BYTE v2|..if|...v2 = 0|....seq|.....c2 ? INT v1|.....clear v3|.....v3 := v1"},
	})
	var rows, clears, types []string
	for i := range 256 {
		rows = append(rows, fmt.Sprintf("INT x%d:", i))
		clears = append(clears, fmt.Sprintf(".clear v%d", i))
		types = append(types, fmt.Sprintf("v%d INT", i))
	}
	checkMade(t, proc(strings.Join(rows, "|")+"|x255 := x0"), strings.Join(types, "|")+"|c0 in|c1 out|seq|"+strings.Join(clears, "|")+"|.v255 := v0")
	checkErrors(t, api.ErrLong, strings.Join(rows, "|")+"|INT y:|x255 := x0")
}
