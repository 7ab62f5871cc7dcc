package typing_test

import (
	"testing"

	"transputer/api"
)

// P13.2: what a name is inside of its specification, behind it, and behind the process in which it is specified.
func TestScopes(t *testing.T) {
	l := env("INT i, j:/BYTE b:/CHAN OF INT c:")
	checkAll(t, l, api.OK,
		"INT x:/x := x", "BYTE x:/INT x:/x := 1", "INT x, x:/x := 1", "SEQ/.INT x:/.x := 1/.BYTE x:/.x := 'a'", "INT x:/SEQ/.BYTE x:/.x := 'a'/.x := 1", "INT x:/SEQ/.SEQ x = 0 FOR 1/..SKIP/.x := 1",
		"PAR/.BYTE i:/.i := 'a'/.i := 1", "IF/.TRUE/..BYTE i:/..i := 'a'/.i = 1/..i := 1", "ALT/.c ? i/..BYTE i:/..i := 'a'/.c ? i/..i := 1", "CASE i/.i/..BYTE i:/..i := 'a'/.i/..i := 1", "SEQ/.WHILE i = 1/..BYTE i:/..i := 'a'/.i := 1",
		"PRI PAR/.BYTE i:/.i := 'a'/.i := 1", "PLACED PAR/.PROCESSOR 0/..BYTE i:/..i := 'a'/.PROCESSOR 1/..i := 1", "SEQ i = i FOR i/.j := i", "SEQ/.SEQ i = i FOR i/..j := i/.i := 1", "[3]INT i:/SEQ i = i[0] FOR SIZE i/.j := i",
		"SEQ b = 0 FOR 1/.SEQ b = b FOR b/..j := b", "PAR/.PAR i = 0 FOR 1/..SKIP/.i := 1", "SEQ/.IF i = 0 FOR 1/..TRUE/...SKIP/.i := 1", "SEQ/.ALT i = 0 FOR 1/..c ? j/...SKIP/.i := 1", "SEQ/.PRI ALT i = 0 FOR 1/..c ? j/...SKIP/.i := 1",
		"VAL BYTE i IS BYTE i:/b := i", "BYTE x IS b:/INT b IS i:/x, b := 'a', 1", "INT x IS i:/INT y IS x:/INT i IS y:/i := 1", "SEQ/.VAL BYTE i IS b:/.b := i/.i := 1", "SEQ/.BYTE i IS b:/.i := b/.i := 1",
		"PROC p(BYTE i)/.i := 'a'/:/i := 1", "PROC p(INT i, BYTE i)/.i := 'a'/:/p(i, b)", "PROC p(VAL BYTE i, INT i)/.i := 1/:/SKIP", "PROC i(INT q)/.q := i/:/i(j)", "PROC p(INT p)/.p := 1/:/p(i)", "SEQ/.PROC i()/..SKIP/.:/.i()/.i := 1",
		"PROC p()/.SKIP/:/PROC p()/.p()/:/p()", "PROC p(INT x)/.SKIP/:/PROC p()/.p(i)/:/p()", "SEQ/.PROTOCOL i IS INT:/.SKIP/.i := 1", "PROC p()/.BYTE i:/.i := 'a'/:/i := 1", "CHAN OF BYTE c:/SEQ/.CHAN OF INT c:/.c ! 1/.c ! 'a'")
	checkAll(t, l, api.ErrScope,
		"SEQ/.INT x:/.x := 1/.x := 1", "PAR/.INT x:/.x := 1/.x := 2", "IF/.TRUE/..INT x:/..x := 1/.TRUE/..x := 1", "IF/.TRUE/..INT x:/..SKIP/.x = 1/..SKIP", "SEQ/.WHILE TRUE/..INT x:/..x := 1/.x := 1", "ALT/.TRUE & SKIP/..INT x:/..SKIP/.c ? x/..SKIP",
		"CASE i/.1/..INT x:/..SKIP/.x/..SKIP", "SEQ x = x FOR 1/.SKIP", "SEQ x = 0 FOR x/.SKIP", "SEQ/.SEQ x = 0 FOR 1/..i := x/.i := x", "SEQ/.PAR x = 0 FOR 1/..SKIP/.i := x", "SEQ/.IF x = 0 FOR 1/..x = 1/...SKIP/.i := x", "SEQ/.ALT x = 0 FOR 1/..c ? i/...SKIP/.i := x",
		"PROC p(INT x)/.SKIP/:/x := 1", "PROC p(INT x)/.SKIP/:/i := x", "PROC p()/.INT x:/.x := 1/:/x := 1", "PROC p()/.p()/:/SKIP", "PROC p()/.PROC q()/..p()/.:/.SKIP/:/SKIP", "SEQ/.PROC p()/..SKIP/.:/.p()/.p()", "VAL INT x IS x:/SKIP", "INT x IS x:/SKIP",
		"SEQ/.VAL INT x IS 1:/.i := x/.i := x", "SEQ/.INT x IS i:/.i := x/.i := x", "SEQ/.PROTOCOL x IS INT:/.SKIP/.CHAN OF x y:/.SKIP", "PROTOCOL x/.CASE/..tag/:/i := tag", "PROC p(CHAN OF x c)/.PROTOCOL x IS INT:/.SKIP/:/SKIP")
	checkAll(t, l, api.ErrTyping,
		"INT x:/BYTE x:/x := 1", "INT x:/SEQ/.BYTE x:/.SKIP/.x := 'a'", "SEQ i = 0 FOR 1/.i := 1", "SEQ i = 0 FOR 1/.c ? i", "SEQ b = 0 FOR 1/.b := 'a'", "SEQ/.SEQ b = 0 FOR 1/..SKIP/.b := 1", "SEQ i = b FOR 1/.SKIP", "SEQ b = b FOR 1/.SKIP", "SEQ b = 0 FOR b/.SKIP",
		"SEQ i = 0 FOR 1/.INT x IS i:/.SKIP", "SEQ i = 0 FOR 1/.j := i[0]", "SEQ i = 0 FOR 1/.j := SIZE i", "VAL INT x IS 1:/x := 1", "VAL INT i IS i:/i := 1", "VAL INT x IS 1:/INT y IS x:/SKIP", "VAL INT x IS i:/c ? x", "VAL BYTE i IS i:/SKIP", "INT b IS b:/SKIP",
		"PROC p(VAL INT x)/.x := 1/:/SKIP", "PROC p(VAL INT x)/.c ? x/:/SKIP", "PROC p(BYTE x, INT x)/.x := 'a'/:/SKIP", "PROC p(INT x, VAL INT x)/.x := 1/:/SKIP", "PROC p([3]INT x)/.x := 1/:/SKIP", "PROC p(TIMER i)/.i := 1/:/SKIP", "PROC p(CHAN OF BYTE c)/.c ! 1/:/SKIP",
		"PROTOCOL i IS INT:/i := 1", "PROC i()/.SKIP/:/i := 1", "PROC i()/.SKIP/:/j := i", "PROC p()/.SKIP/:/INT p:/p()", "PROC p(INT p)/.p(i)/:/SKIP", "PROC p()/.SKIP/:/PROC p(INT x)/.p(i)/:/SKIP", "PROC p()/.SKIP/:/PROC p(INT x)/.p()/:/p()", "CHAN OF i d:/SKIP")
}

// P13.2: a specification of each kind has its names in its process, as what it says they are.
func TestKindsOfSpecifications(t *testing.T) {
	l := env("INT i:/BYTE b:/BOOL f:/[4]INT v:/PROTOCOL pair IS INT; BYTE:")
	right := map[string][]string{
		"INT x, y:":                                       {"x := y", "y := i", "x, y := y, x", "INT z IS x:/SKIP", "SEQ z = x FOR y/.SKIP"},
		"BYTE x, y:":                                      {"x := y", "y := b", "b := x", "CASE x/.y/..SKIP"},
		"BOOL x, y:":                                      {"x := y", "f := NOT y", "WHILE x/.SKIP"},
		"[4]INT x, y:":                                    {"x[1] := y[i]", "i := SIZE y", "PROC p([4]INT z)/.SKIP/:/p(y)", "x[x[0]] := 1"},
		"[3]BYTE x, y:":                                   {"x[1] := y[i]", "b := y[2]"},
		"CHAN OF INT x, y:":                               {"PAR/.x ! 1/.x ? i/.y ! 1/.y ? i", "PROC p(CHAN OF INT z)/.SKIP/:/p(y)"},
		"[2]CHAN OF BYTE x, y:":                           {"PAR/.x[0] ! b/.y[i] ? b", "i := SIZE y"},
		"CHAN OF pair x, y:":                              {"PAR/.x ! 1; b/.y ? i; b"},
		"TIMER x, y:":                                     {"x ? i", "y ? AFTER i", "PROC p(TIMER z)/.SKIP/:/p(y)"},
		"VAL INT x IS i + 1:/INT y:":                      {"y := x", "SEQ z = x FOR x/.SKIP", "y := v[x]"},
		"VAL BYTE x IS 'a':/BYTE y:":                      {"y := x"},
		"VAL BOOL x IS i = 1:/INT y:":                     {"f := x", "WHILE x/.SKIP"},
		"INT x IS v[i]:/INT y IS i:":                      {"x, y := y, x", "INT z IS x:/SKIP"},
		"BYTE x IS b:/BYTE y IS x:":                       {"x := y", "y := x"},
		"BOOL x IS f:/BOOL y IS x:":                       {"x := y", "y := x"},
		"PROC x()/.SKIP/:/PROC y(VAL INT z)/.SKIP/:":      {"x()", "y(i + 1)"},
		"PROTOCOL x IS BYTE:/CHAN OF x y:":                {"y ! b", "y ? b", "CHAN OF x z:/z ! b"},
		"PROTOCOL x/.CASE/..on/..off; INT/:/CHAN OF x y:": {"y ! on", "y ! off; 1", "y ? CASE/.off; i/..SKIP/.on/..SKIP"},
	}
	for s, uses := range right {
		checkAll(t, l, api.OK, s+"/SKIP")
		checkAll(t, l, api.ErrScope, s+"/i := z")
		for _, use := range uses {
			checkAll(t, l, api.OK, s+"/"+use)
			checkAll(t, append(l[:len(l):len(l)], env(s)...), api.OK, use)
			checkAll(t, l, api.ErrScope, use)
		}
		for other, uses := range right {
			if other == s {
				continue
			}
			for _, use := range uses {
				want := checkByRules(proc(s+"/"+use), l)
				checkAll(t, l, want, s+"/"+use)
			}
		}
	}
}
