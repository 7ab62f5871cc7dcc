package kernel_test

import (
	"strings"
	"testing"

	"transputer/api"
)

// P16.2: the rows of the table of processes that are one process of a kernel.
func TestSimpleProcesses(t *testing.T) {
	checkRoots(t, [][2]string{
		{"SKIP", "skip"}, {"STOP", "stop"}, {"SEQ", "skip"}, {"PAR", "par"}, {"ALT", "alt"}, {"PRI ALT", "pri alt"}, {"IF", "if"},
		{"WHILE TRUE|.SKIP", "while 1|.skip"}, {"WHILE (1 + 1) = 2|.SEQ|..SKIP|..STOP", "while (1 + 1) = 2|.seq|..skip|..stop"},
		{"PAR|.SKIP|.SEQ|..SKIP|..STOP|.PAR|..STOP", "par|.skip|.seq|..skip|..stop|.par|..stop"}, {"PAR|.SKIP", "par|.skip"},
		{"PRI PAR|.SKIP|.STOP", "pri par|.skip|.stop"},
		{"IF|.TRUE|..SKIP|.1 = 2|..STOP", "if|.1|..skip|.1 = 2|..stop"},
		{"ALT|.TRUE & SKIP|..STOP|.FALSE & SKIP|..SKIP", "alt|.1 & skip|..stop|.0 & skip|..skip"},
		{"to.host ! 1 + 2", "c1 ! INT 1 + 2"}, {"CASE 7", "seq|.v0 := 7|.if"}, {"CASE 'a'|.ELSE|..STOP", "seq|.v0 := 97|.if|..1|...stop"},
	})
}

// P16.2: expressions and targets.
func TestExpressions(t *testing.T) {
	const around = "INT x:|BYTE y:|BOOL z:|[4]INT v:|[3]BOOL w:|VAL INT k IS 3:|VAL BYTE l IS 'A':|VAL BOOL m IS TRUE:|"
	for src, want := range map[string]string{
		"x := 7": "v0 := 7", "x := #FFFFFFFF": "v0 := -1", "y := 'a'": "v1 := 97", "y := '*#FF'": "v1 := 255", "z := TRUE": "v2 := 1", "z := FALSE": "v2 := 0",
		"x := k": "v0 := 3", "y := l": "v1 := 65", "z := m": "v2 := 1", "x := x": "v0 := v0", "x := v[2]": "v0 := v3[2]", "x := v[1 + k]": "v0 := v3[1 + 3]", "x := v[v[x]]": "v0 := v3[v3[v0]]", "x := SIZE v": "v0 := 4", "x := SIZE w": "v0 := 3",
		"x := k + k": "v0 := 3 + 3", "x := (1 + 2) * 3": "v0 := (1 + 2) * 3", "x := - 1": "v0 := - 1", "x := - #80000000": "v0 := - -2147483648", "x := ~ k": "v0 := ~ 3", "z := NOT m": "v2 := NOT 1", "x := MINUS x": "v0 := MINUS v0",
		"x := INT y": "v0 := INT v1", "y := BYTE (x + 1)": "v1 := BYTE (v0 + 1)", "z := BOOL 1": "v2 := BOOL 1", "x := INT l": "v0 := INT 65", "x := (INT y) + (INT z)": "v0 := (INT v1) + (INT v2)",
		"z := (x AFTER k) AND (z OR w[x])": "v2 := (v0 AFTER 3) AND (v2 OR v4[v0])", "z := y >= l": "v2 := v1 >= 65", "x := (x /\\ 7) >< (x << 2)": "v0 := (v0 /\\ 7) >< (v0 << 2)", "x := 1 / 0": "v0 := 1 / 0", "x := 2147483647 + 1": "v0 := 2147483647 + 1",
		"v[0] := 1": "v3[0] := 1", "v[x] := x": "v3[v0] := v0", "v[4] := x": "v3[4] := v0", "v[x \\ 4] := k": "v3[v0 \\ 4] := 3", "w[k] := z": "v4[3] := v2", "v[v[0]] := 1": "v3[v3[0]] := 1", "v[SIZE v] := 1": "v3[4] := 1",
		"x, y, z := 1, 'b', m": "v0, v1, v2 := 1, 98, 1", "v[x], x, y := x, v[x], y": "v3[v0], v0, v1 := v0, v3[v0], v1",
	} {
		checkRoots(t, [][2]string{{around + src, "seq|.clear v0|.clear v1|.clear v2|.clear v3|.clear v4|." + want}})
	}
}

// P16.2: all operators of the language stay what they are.
func TestOperatorsStay(t *testing.T) {
	for _, o := range strings.Fields(`+ - * / \ PLUS MINUS TIMES /\ \/ >< << >>`) {
		checkRoots(t, [][2]string{{"INT x:|x := x " + o + " 5", "seq|.clear v0|.v0 := v0 " + o + " 5"}})
	}
	for _, o := range strings.Fields("= <> < > <= >= AFTER") {
		checkRoots(t, [][2]string{{"INT x:|WHILE x " + o + " 5|.STOP", "seq|.clear v0|.while v0 " + o + " 5|..stop"}})
	}
	checkRoots(t, [][2]string{{"BOOL x:|x := (x AND x) OR (NOT x)", "seq|.clear v0|.v0 := (v0 AND v0) OR (NOT v0)"}, {"INT x:|x := (- x) + (MINUS (~ x))", "seq|.clear v0|.v0 := (- v0) + (MINUS (~ v0))"}})
}

// P16.2: sequences are flattened, unless they are inside something else.
func TestSequences(t *testing.T) {
	checkRoots(t, [][2]string{
		{"SEQ|.SKIP", "skip"}, {"SEQ|.SEQ|..SEQ", "skip"}, {"SEQ|.SEQ|.SEQ", "seq|.skip|.skip"}, {"SEQ|.SKIP|.SKIP", "seq|.skip|.skip"}, {"SEQ|.STOP|.SEQ", "seq|.stop|.skip"}, {"SEQ|.SEQ|.STOP", "seq|.skip|.stop"},
		{"SEQ|.STOP|.SEQ|..SKIP|..SEQ|...STOP|...SKIP|.SKIP", "seq|.stop|.skip|.stop|.skip|.skip"}, {"SEQ|.PAR|..SEQ|...STOP|...SKIP|..SEQ|.SKIP", "seq|.par|..seq|...stop|...skip|..skip|.skip"},
		{"SEQ i = 0 FOR 0|.STOP", "skip"}, {"SEQ|.SEQ i = 0 FOR 0|..STOP|.STOP", "seq|.skip|.stop"}, {"SEQ i = 0 FOR 1|.STOP", "stop"}, {"SEQ i = 0 FOR 3|.STOP", "seq|.stop|.stop|.stop"}, {"SEQ i = 0 FOR 2|.SEQ|..STOP|..SKIP", "seq|.stop|.skip|.stop|.skip"}, {"SEQ i = 0 FOR 2|.SEQ", "seq|.skip|.skip"},
		{"WHILE TRUE|.SEQ|..SEQ", "while 1|.skip"}, {"IF|.TRUE|..SEQ|...STOP|...STOP", "if|.1|..seq|...stop|...stop"}, {"SEQ|.INT x:|.SEQ|..SKIP|..x := 1|.STOP", "seq|.clear v0|.skip|.v0 := 1|.stop"}, {"CHAN OF INT c:|TIMER t:|SEQ|.SKIP", "skip"},
		{"PROC p()|.SEQ|..STOP|..SKIP|:|SEQ|.p()|.SKIP|.p()", "seq|.stop|.skip|.skip|.stop|.skip"}, {"PROC p()|.SEQ|:|SEQ|.p()|.p()", "seq|.skip|.skip"},
		{"PROTOCOL q IS INT; INT:|CHAN OF q c:|SEQ|.c ! 1; 2|.STOP", "seq|.c2 ! INT 1|.c2 ! INT 2|.stop"}, {"PRI PAR|.SEQ|..STOP|..STOP|.SEQ|..SKIP", "pri par|.seq|..stop|..stop|.skip"},
	})
}

// P16.2: inputs and outputs of one and of several items, in processes and in guards.
func TestCommunication(t *testing.T) {
	const around = "PROTOCOL p IS INT; BYTE; BOOL:|PROTOCOL q IS BYTE:|INT x:|BYTE y:|BOOL z:|[2]INT v:|CHAN OF p c:|[3]CHAN OF q d:|CHAN OF BOOL e:|TIMER t:|"
	const clears = "seq|.clear v0|.clear v1|.clear v2|.clear v3|"
	for src, want := range map[string]string{
		"from.host ? x": ".c0 ? INT v0", "from.host ? v[x]": ".c0 ? INT v3[v0]", "to.host ! x": ".c1 ! INT v0", "d[0] ? y": ".c3 ? BYTE v1", "d[2] ! 'a'": ".c5 ! BYTE 97", "d[1 + 1] ! y": ".c5 ! BYTE v1", "e ? z": ".c6 ? BOOL v2", "e ! x = 1": ".c6 ! BOOL v0 = 1",
		"c ? x; y; z": ".c2 ? INT v0|.c2 ? BYTE v1|.c2 ? BOOL v2", "c ? v[0]; y; z": ".c2 ? INT v3[0]|.c2 ? BYTE v1|.c2 ? BOOL v2", "c ! x + 1; y; TRUE": ".c2 ! INT v0 + 1|.c2 ! BYTE v1|.c2 ! BOOL 1",
		"t ? x": ".time v0", "t ? v[x]": ".time v3[v0]", "t ? AFTER x PLUS 10": ".after v0 PLUS 10", "t ? AFTER 5": ".after 5",
		"ALT|.c ? x; y; z|..SKIP":                        ".alt|..1 & c2 ? INT v0|...seq|....c2 ? BYTE v1|....c2 ? BOOL v2|....skip",
		"ALT|.c ? v[x]; y; z|..SEQ|...STOP|...SKIP":      ".alt|..1 & c2 ? INT v3[v0]|...seq|....c2 ? BYTE v1|....c2 ? BOOL v2|....stop|....skip",
		"PRI ALT|.z & d[1] ? y|..STOP|.e ? z|..SKIP":     ".pri alt|..v2 & c4 ? BYTE v1|...stop|..1 & c6 ? BOOL v2|...skip",
		"ALT|.t ? AFTER x|..SKIP|.z & t ? AFTER 1|..SEQ": ".alt|..1 & after v0|...skip|..v2 & after 1|...skip",
		"ALT|.z & SKIP|..t ? x|.from.host ? x|..STOP":    ".alt|..v2 & skip|...time v0|..1 & c0 ? INT v0|...stop",
		"PRI ALT|.(x > 0) & c ? x; y; z|..c ! x; y; z":   ".pri alt|..v0 > 0 & c2 ? INT v0|...seq|....c2 ? BYTE v1|....c2 ? BOOL v2|....c2 ! INT v0|....c2 ! BYTE v1|....c2 ! BOOL v2",
	} {
		checkRoots(t, [][2]string{{around + src, clears + want}})
	}
}

// P16.2: protocols with variants, without items and with several ones.
func TestVariants(t *testing.T) {
	const around = "PROTOCOL m|.CASE|..put; INT; BYTE|..end|..one; BOOL|:|CHAN OF m c:|[2]CHAN OF m d:|INT x:|BYTE y:|BOOL z:|"
	const clears = "seq|.clear v0|.clear v1|.clear v2|"
	for src, want := range map[string]string{
		"c ! put; 5; y": ".c2 ! BYTE 0|.c2 ! INT 5|.c2 ! BYTE v1", "c ! end": ".c2 ! BYTE 1", "d[1] ! one; z": ".c4 ! BYTE 2|.c4 ! BOOL v2", "INT end:|d[0] ! end": ".clear v3|.c3 ! BYTE 1",
		"c ? CASE|.end|..STOP":                                                            ".c2 ? BYTE v3|.if|..v3 = 1|...stop",
		"c ? CASE|.one; z|..STOP|.put; x; y|..SKIP":                                       ".c2 ? BYTE v3|.if|..v3 = 2|...seq|....c2 ? BOOL v2|....stop|..v3 = 0|...seq|....c2 ? INT v0|....c2 ? BYTE v1|....skip",
		"d[1] ? CASE|.put; x; y|..INT k:|..k := x|.end|..SEQ":                             ".c4 ? BYTE v3|.if|..v3 = 0|...seq|....c4 ? INT v0|....c4 ? BYTE v1|....clear v4|....v4 := v0|..v3 = 1|...skip",
		"SEQ|.c ? CASE|..end|...SKIP|.d[0] ? CASE|..end|...c ? CASE|....one; z|.....STOP": ".c2 ? BYTE v3|.if|..v3 = 1|...skip|.c3 ? BYTE v4|.if|..v4 = 1|...seq|....c2 ? BYTE v5|....if|.....v5 = 2|......seq|.......c2 ? BOOL v2|.......stop",
	} {
		checkRoots(t, [][2]string{{around + src, clears + want}})
	}
	tags := make([]string, 16)
	var rows, kernels string
	for i := range tags {
		tags[i] = "t" + string(rune('a'+i))
		rows += "|.." + tags[i]
		kernels += "|.c2 ! BYTE " + []string{"0", "1", "2", "3", "4", "5", "6", "7", "8", "9", "10", "11", "12", "13", "14", "15"}[i]
	}
	checkRoots(t, [][2]string{{"PROTOCOL m|.CASE" + rows + "|:|CHAN OF m c:|SEQ|.c ! " + strings.Join(tags, "|.c ! "), "seq" + kernels}})
}

// P16.2: the options of a CASE.
func TestOptions(t *testing.T) {
	const around = "INT k:|BYTE b:|VAL INT n IS 3:|"
	const clears = "seq|.clear v0|.clear v1|"
	for src, want := range map[string]string{
		"CASE k": ".v2 := v0|.if", "CASE k|.1|..STOP": ".v2 := v0|.if|..v2 = 1|...stop", "CASE k + 1|.n, n + 1|..STOP": ".v2 := v0 + 1|.if|..(v2 = 3) OR (v2 = 4)|...stop",
		"CASE k|.1, 2, 3, 4|..STOP":                                                ".v2 := v0|.if|..(((v2 = 1) OR (v2 = 2)) OR (v2 = 3)) OR (v2 = 4)|...stop",
		"CASE b|.'a', BYTE n|..STOP|.'b'|..SKIP":                                   ".v2 := v1|.if|..(v2 = 97) OR (v2 = 3)|...stop|..v2 = 98|...skip",
		"CASE k|.ELSE|..STOP|.1|..SKIP":                                            ".v2 := v0|.if|..v2 = 1|...skip|..1|...stop",
		"CASE k|.1|..INT a:|..a := 1|.ELSE|..INT e:|..e := 2|.2|..INT c:|..c := 3": ".v2 := v0|.if|..v2 = 1|...seq|....clear v3|....v3 := 1|..v2 = 2|...seq|....clear v5|....v5 := 3|..1|...seq|....clear v4|....v4 := 2",
		"CASE k|.#80000000|..SKIP|.- 2147483647|..STOP":                            ".v2 := v0|.if|..v2 = -2147483648|...skip|..v2 = -2147483647|...stop",
		"CASE n|.n|..CASE b|...'a'|....STOP":                                       ".v2 := 3|.if|..v2 = 3|...seq|....v3 := v1|....if|.....v3 = 97|......stop",
		"CASE n * n|.(n * n) - 8|..SKIP":                                           ".v2 := 3 * 3|.if|..v2 = 1|...skip",
	} {
		checkRoots(t, [][2]string{{around + src, clears + want}})
	}
	k := "seq|.v0 := 1|.if"
	src := "CASE 1"
	for i := range 16 {
		src += "|." + string(rune('a'+i)) + "|..SKIP"
		k += "|..v0 = " + []string{"0", "1", "2", "3", "4", "5", "6", "7", "8", "9", "10", "11", "12", "13", "14", "15"}[i] + "|...skip"
		src = "VAL INT " + string(rune('a'+i)) + " IS " + []string{"0", "1", "2", "3", "4", "5", "6", "7", "8", "9", "10", "11", "12", "13", "14", "15"}[i] + ":|" + src
	}
	checkRoots(t, [][2]string{{src, k}})
	checkMade(t, proc("BYTE b:|CASE b|.'a'|..SKIP"), "v0 BYTE|v1 BYTE|c0 in|c1 out|seq|.clear v0|.v1 := v0|.if|..v1 = 97|...skip")
}

// P16.2: PRI PAR, and where it may be.
func TestPriorities(t *testing.T) {
	const inner = "PRI PAR|.STOP|.SKIP"
	places := []string{"@", "SEQ|.SKIP|.@", "PAR|.@", "WHILE TRUE|.@", "IF|.TRUE|..@", "ALT|.TRUE & SKIP|..@", "CASE 1|.1|..@", "CASE 1|.ELSE|..@", "INT x:|@", "SEQ i = 0 FOR 1|.@", "PAR i = 0 FOR 2|.@", "IF i = 0 FOR 1|.TRUE|..@", "PROC p()|.@|:|p()", "INT n:|SEQ i = 0 FOR n|.@", "PROTOCOL q|.CASE|..a|:|CHAN OF q c:|c ? CASE|.a|..@", "PRI PAR|.SKIP|.@"}
	for _, s := range places {
		for _, outer := range []string{"@", "PRI PAR|.SKIP|.@", "SEQ|.PRI PAR|..SKIP|..SKIP|.@", "PROC p()|.PRI PAR|..SKIP|..STOP|:|SEQ|.p()|.@"} {
			made(t, inside(outer, inside(s, inner)))
		}
		for _, outer := range []string{"PRI PAR|.@|.SKIP", "SEQ|.PRI PAR|..@|..SKIP", "PRI PAR|.SKIP|.PRI PAR|..@|..SKIP", "PROC p()|.PRI PAR|..@|..STOP|:|p()"} {
			checkErrors(t, api.ErrKernel, inside(outer, inside(s, inner)))
		}
	}
	checkErrors(t, api.ErrKernel, "PROC p()|.PRI PAR|..SKIP|..STOP|:|PRI PAR|.p()|.SKIP", "PROC p()|.PRI PAR|..SKIP|..STOP|:|PROC q()|.SEQ|..p()|:|PRI PAR|.q()|.SKIP")
	checkRoots(t, [][2]string{
		{"PRI PAR|.SEQ i = 0 FOR 0|..PRI PAR|...SKIP|...STOP|.SKIP", "pri par|.skip|.skip"}, {"PRI PAR|.PAR i = 0 FOR 0|..PRI PAR|...SKIP|...STOP|.SKIP", "pri par|.par|.skip"},
		{"PRI PAR|.PROC p()|..PRI PAR|...SKIP|...STOP|.:|.SKIP|.PRI PAR|..STOP|..STOP", "pri par|.skip|.pri par|..stop|..stop"},
	})
}
