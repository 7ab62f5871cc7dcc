package lex_test

import (
	"math"
	"slices"
	"strings"
	"testing"

	"transputer/api"
	"transputer/lex"
)

// P8.3: the texts of single tokens.
func TestTextOfToken(t *testing.T) {
	for n, s := range map[int32]string{
		0: "0", 1: "1", 10: "10", 2147483647: "2147483647", -1: "#FFFFFFFF", -2: "#FFFFFFFE", -10: "#FFFFFFF6", -2147483648: "#80000000", -2147483647: "#80000001", -1698898192: "#9ABCDEF0", 305419896: "305419896",
	} {
		checkText(t, s, number(0, n))
		checkTokens(t, s, number(0, n))
	}
	for n, s := range map[int32]string{
		0: "*#00", 1: "*#01", 8: "*#08", 9: "*t", 10: "*n", 11: "*#0B", 12: "*#0C", 13: "*c", 14: "*#0E", 31: "*#1F", 32: " ", 33: "!", 34: "\"", 35: "#", 38: "&", 39: "*'", 40: "(", 41: ")", 42: "**", 43: "+",
		65: "A", 97: "a", 99: "c", 110: "n", 115: "s", 116: "t", 126: "~", 127: "*#7F", 128: "*#80", 171: "*#AB", 255: "*#FF",
	} {
		checkText(t, "'"+s+"'", char(0, n))
	}
	for n := range int32(256) {
		checkWritten(t, tokens(char(0, n)))
		checkWritten(t, tokens(char(0, n), char(0, 255-n), name(0, "a"), char(0, n)))
		s, e := lex.Text(tokens(char(0, n)))
		if e != api.OK || len(s) < 3 || len(s) > 6 {
			t.Errorf("%d: %q, %d", n, s, e)
		}
		checkTokens(t, s, char(0, n))
	}
	for _, s := range append(slices.Clone(reserved), "x", "from.host", strings.Repeat("m", 32)) {
		l, _, _ := lex.Tokens(s)
		checkText(t, s, l...)
	}
	checkText(t, "")
	checkText(t, "", []api.Token{}...)
}

// P8.3: where spaces are.
func TestSpaces(t *testing.T) {
	f, x, seq, one, a := name(0, "f"), name(0, "x"), key(0, "SEQ"), number(0, 1), char(0, 97)
	for _, s := range []string{",", ";", ":", ")", "]"} {
		for _, before := range tokens(x, seq, one, number(0, -1), a, sym(0, ")"), sym(0, "]"), sym(0, "+"), sym(0, ":="), sym(0, ","), sym(0, "<"), sym(0, "("), sym(0, "[")) {
			text, _ := lex.Text(tokens(before))
			checkText(t, text+s, before, sym(0, s))
		}
		for _, behind := range tokens(x, seq, one, number(0, -1), a, sym(0, "+"), sym(0, ":="), sym(0, "="), sym(0, "("), sym(0, "["), sym(0, "~")) {
			text, _ := lex.Text(tokens(behind))
			checkText(t, s+" "+text, sym(0, s), behind)
		}
	}
	for _, s := range []string{"(", "["} {
		checkText(t, "f"+s, f, sym(0, s))
		for _, before := range tokens(seq, one, number(0, -1), a, sym(0, ")"), sym(0, "]"), sym(0, "+"), sym(0, ":="), sym(0, ","), sym(0, "<"), sym(0, ":")) {
			text, _ := lex.Text(tokens(before))
			checkText(t, text+" "+s, before, sym(0, s))
		}
		for _, behind := range tokens(x, seq, one, number(0, -1), a, sym(0, "+"), sym(0, ":="), sym(0, ","), sym(0, ")"), sym(0, "]"), sym(0, "("), sym(0, "["), sym(0, "~")) {
			text, _ := lex.Text(tokens(behind))
			checkText(t, s+text, sym(0, s), behind)
		}
	}
	checkText(t, "SIZE (- 5) [] (x): =", key(0, "SIZE"), sym(0, "("), sym(0, "-"), number(255, 5), sym(0, ")"), sym(0, "["), sym(0, "]"), sym(0, "("), x, sym(0, ")"), sym(0, ":"), sym(0, "="))
	checkText(t, "f((x), [1; 1] [f[x(1)]])", f, sym(0, "("), sym(0, "("), x, sym(0, ")"), sym(0, ","), sym(0, "["), one, sym(0, ";"), one, sym(0, "]"), sym(0, "["), f, sym(0, "["), x, sym(0, "("), one, sym(0, ")"), sym(0, "]"), sym(0, "]"), sym(0, ")"))
	checkText(t, "[1] INT f, x:", sym(0, "["), one, sym(0, "]"), key(0, "INT"), f, sym(0, ","), x, sym(0, ":"))
	checkText(t, "x := - 1", x, sym(0, ":="), sym(0, "-"), one)
	checkText(t, "SEQ x = 1 FOR 1", seq, x, sym(0, "="), one, key(0, "FOR"), one)
	checkText(t, "f ? x; 'a'", f, sym(0, "?"), x, sym(0, ";"), a)
}

// P8.3, P8.4: tokens that would be other ones without a space between them.
func TestApart(t *testing.T) {
	for _, c := range []struct {
		s string
		l []api.Token
	}{
		{"< <", tokens(sym(0, "<"), sym(0, "<"))},
		{"< =", tokens(sym(0, "<"), sym(0, "="))},
		{"< >", tokens(sym(0, "<"), sym(0, ">"))},
		{"> <", tokens(sym(0, ">"), sym(0, "<"))},
		{"> >", tokens(sym(0, ">"), sym(0, ">"))},
		{"> =", tokens(sym(0, ">"), sym(0, "="))},
		{": =", tokens(sym(0, ":"), sym(0, "="))},
		{"/ \\", tokens(sym(0, "/"), sym(0, "\\"))},
		{"\\ /", tokens(sym(0, "\\"), sym(0, "/"))},
		{"- -", tokens(sym(0, "-"), sym(0, "-"))},
		{"a b", tokens(name(0, "a"), name(0, "b"))},
		{"IN T", tokens(name(0, "IN"), name(0, "T"))},
		{"INT x", tokens(key(0, "INT"), name(0, "x"))},
		{"IF IF", tokens(key(0, "IF"), key(0, "IF"))},
		{"a 1", tokens(name(0, "a"), number(0, 1))},
		{"1 a", tokens(number(0, 1), name(0, "a"))},
		{"1 2", tokens(number(0, 1), number(0, 2))},
		{"#80000000 1", tokens(number(0, -2147483648), number(0, 1))},
		{"1 #FFFFFFFF IF", tokens(number(0, 1), number(0, -1), key(0, "IF"))},
		{"'a' 'b'", tokens(char(0, 97), char(0, 98))},
		{"'*'' '*''", tokens(char(0, 39), char(0, 39))},
		{"(- 1)", tokens(sym(0, "("), sym(0, "-"), number(0, 1), sym(0, ")"))},
		{"<: =", tokens(sym(0, "<"), sym(0, ":"), sym(0, "="))},
		{":: :=", tokens(sym(0, ":"), sym(0, ":"), sym(0, ":="))},
	} {
		checkText(t, c.s, c.l...)
		checkWritten(t, c.l)
	}
}

// samples are tokens of all kinds.
func samples() []api.Token {
	l := tokens(name(0, "a"), name(255, "x.1"), name(0, "FF"), key(9, "INT"), key(0, "SEQ"), number(0, 0), number(1, 17), number(0, -1), number(0, math.MinInt32), char(0, 97), char(0, 32), char(0, 39), char(0, 42), char(0, 10), char(0, 0), char(0, 44), char(3, 255))
	for i, s := range symbols {
		l = append(l, sym(i, s))
	}
	return l
}

// P8.3, P8.4: all triples of tokens of all kinds.
func TestTriples(t *testing.T) {
	l := samples()
	for _, a := range l {
		checkWritten(t, tokens(a))
		for _, b := range l {
			checkWritten(t, tokens(a, b))
			for _, c := range l {
				checkWritten(t, tokens(a, b, c))
			}
		}
	}
}

// P8.3: texts whose length is at the limit, and that a token that does not exist comes before it.
func TestTextLimit(t *testing.T) {
	plus := slices.Repeat(tokens(sym(0, "+")), 300)
	long := func(l []api.Token, more ...api.Token) []api.Token { return append(slices.Clone(l), more...) }
	checkText(t, strings.Repeat("+ ", 127)+"+", plus[:128]...)
	checkText(t, strings.Repeat("+ ", 127)+"+;", long(plus[:128], sym(0, ";"))...)
	checkText(t, strings.Repeat("+ ", 127)+":=", long(plus[:127], sym(0, ":="))...)
	checkText(t, strings.Repeat("+ ", 126)+"'a'", long(plus[:126], char(0, 97))...)
	checkText(t, strings.Repeat("+ ", 123)+"#FFFFFFFF", long(plus[:123], number(0, -1))...)
	checkText(t, strings.Repeat("+ ", 112)+strings.Repeat("m", 32), long(plus[:112], name(0, strings.Repeat("m", 32)))...)
	checkText(t, "f"+strings.Repeat("(", 255), long(tokens(name(0, "f")), slices.Repeat(tokens(sym(0, "(")), 255)...)...)
	checkText(t, strings.Repeat("+ ", 126)+"'*''", long(plus[:126], char(0, 39))...)
	list := long(tokens(name(0, "f")), slices.Repeat(tokens(sym(0, ",")), 30)...)
	checkText(t, strings.Repeat("f"+strings.Repeat(",", 30)+" ", 8)[:255]+";", long(slices.Repeat(list, 8), sym(0, ";"))...)
	for _, l := range [][]api.Token{
		plus[:129],
		plus,
		long(plus[:128], sym(0, ";"), sym(0, ";")),
		long(plus[:127], sym(0, ":="), sym(0, ")")),
		long(plus[:126], char(0, 97), sym(0, ","), sym(0, ",")),
		long(plus[:126], char(0, 39), sym(0, ":")),
		long(slices.Repeat(list, 8), sym(0, ";"), sym(0, "]")),
		long(plus[:124], number(0, -1)),
		long(plus[:113], name(0, strings.Repeat("m", 31))),
		slices.Repeat(tokens(sym(0, "(")), 257),
		slices.Repeat(tokens(name(0, strings.Repeat("m", 32))), 8),
		slices.Repeat(tokens(char(0, 0)), 100000),
	} {
		checkNoText(t, api.ErrLong, l)
		for _, x := range tokens(api.Token{}, api.Token{Kind: 6}, sym(0, "=="), char(0, 256), name(-1, "a"), name(256, "a"), name(0, "SEQ"), name(0, strings.Repeat("m", 33)), key(0, "seq"), api.Token{Kind: api.TokNumber, Text: "1", N: 1}) {
			checkNoText(t, api.ErrArg, long(l, x))
			checkNoText(t, api.ErrArg, long(tokens(x), l...))
			checkNoText(t, api.ErrArg, slices.Insert(slices.Clone(l), len(l)/2, x))
		}
	}
}

// P8.3: At is ignored.
func TestAt(t *testing.T) {
	pick := random(3)
	for range 300 {
		l := randomTokens(pick, pick(20))
		want, fault := lex.Text(l)
		for range 5 {
			for i := range l {
				l[i].At = pick(256)
			}
			if s, e := lex.Text(l); s != want || e != fault {
				t.Fatalf("Text(%v) = %q, %d, want %q, %d", l, s, e, want, fault)
			}
		}
	}
	checkText(t, "b + a", name(255, "b"), sym(255, "+"), name(0, "a"))
}

// randomTokens returns n tokens that exist.
func randomTokens(pick func(n int) int, n int) (l []api.Token) {
	some := samples()
	for range n {
		switch pick(8) {
		case 0:
			l = append(l, char(pick(256), int32(pick(256))))
		case 1:
			l = append(l, number(pick(256), int32(pick(1<<22))<<uint(pick(11))))
		case 2:
			l = append(l, number(pick(256), -int32(pick(1<<22))<<uint(pick(10))))
		case 3:
			l = append(l, key(pick(256), reserved[pick(len(reserved))]))
		case 4:
			l = append(l, name(pick(256), reserved[pick(len(reserved))]+".aZ0"[:1+pick(4)]))
		default:
			l = append(l, some[pick(len(some))])
		}
	}
	return l
}

// P8.3, P8.4: random tokens, of which some do not exist.
func TestRandomTokens(t *testing.T) {
	pick := random(4)
	written, long := 0, 0
	for range 6000 {
		l := randomTokens(pick, pick(90))
		before := slices.Clone(l)
		checkWritten(t, l)
		if !slices.Equal(l, before) {
			t.Fatal("the argument was changed")
		}
		switch _, e := lex.Text(l); e {
		case api.OK:
			written++
		case api.ErrLong:
			long++
		}
		if len(l) == 0 {
			continue
		}
		i := pick(len(l))
		switch pick(5) {
		case 0:
			l[i].At = []int{-1, 256, 300}[pick(3)]
		case 1:
			l[i].Kind = api.TokenKind(pick(8))
		case 2:
			l[i].N += int32(pick(3)) * 200
		case 3:
			l[i].Text += []string{"", " ", "_", "="}[pick(4)]
		case 4:
			l[i] = api.Token{}
		}
		checkWritten(t, l)
	}
	if written < 2000 || long < 1000 {
		t.Error(written, long)
	}
}

// P8.3: neither the argument nor what is behind its length is changed or used, and a result is not kept.
func TestTextArgument(t *testing.T) {
	l := tokens(name(4, "f"), sym(5, "("), number(6, -1), sym(7, ")"), char(8, 10), api.Token{Kind: 9, At: -1, Text: "x", N: 1}, sym(0, "+"))
	before := slices.Clone(l)
	for range 2 {
		checkText(t, "f(#FFFFFFFF) '*n'", l[:5]...)
		checkText(t, "f(", l[:2]...)
		checkText(t, "", l[:0]...)
		checkNoText(t, api.ErrArg, l[:6])
		if !slices.Equal(l, before) {
			t.Fatal(l)
		}
	}
}
