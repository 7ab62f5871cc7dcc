package lex_test

import (
	"fmt"
	"slices"
	"strconv"
	"strings"
	"testing"

	"transputer/api"
	"transputer/lex"
)

// P8.2: each symbol, alone and behind each other one.
func TestSymbols(t *testing.T) {
	if len(symbols) != 28 {
		t.Fatal(len(symbols))
	}
	for _, s := range symbols {
		checkTokens(t, s, sym(0, s))
		checkTokens(t, " "+s+" ", sym(1, s))
		checkTokens(t, "a"+s+"b", name(0, "a"), sym(1, s), name(1+len(s), "b"))
		checkTokens(t, "1"+s+"#A", number(0, 1), sym(1, s), number(1+len(s), 10))
		checkTokens(t, "'a'"+s+"'b'", char(0, 97), sym(3, s), char(3+len(s), 98))
		checkMay(t, sym(0, s), true)
		checkText(t, s, sym(7, s))
		for _, other := range symbols {
			checkTokens(t, s+" "+other, sym(0, s), sym(len(s)+1, other))
			checkTokens(t, s+"  "+other, sym(0, s), sym(len(s)+2, other))
			checkLine(t, s+other)
			for _, third := range symbols {
				checkLine(t, s+other+third)
			}
		}
	}
}

// P8.2: the longest symbol is taken, and never one that is longer than those that exist.
func TestLongestSymbols(t *testing.T) {
	for _, s := range []string{"<<", "<=", "<>", "><", ">>", ">=", ":=", "/\\", "\\/"} {
		checkTokens(t, s, sym(0, s))
		checkTokens(t, s+s, sym(0, s), sym(2, s))
		checkTokens(t, s[:1]+" "+s[1:], sym(0, s[:1]), sym(2, s[1:]))
		checkTokens(t, s+" "+s[:1], sym(0, s), sym(3, s[:1]))
	}
	checkTokens(t, "<<<", sym(0, "<<"), sym(2, "<"))
	checkTokens(t, "<<=", sym(0, "<<"), sym(2, "="))
	checkTokens(t, "<><", sym(0, "<>"), sym(2, "<"))
	checkTokens(t, "><>", sym(0, "><"), sym(2, ">"))
	checkTokens(t, ">>=", sym(0, ">>"), sym(2, "="))
	checkTokens(t, ">=<", sym(0, ">="), sym(2, "<"))
	checkTokens(t, "=<=", sym(0, "="), sym(1, "<="))
	checkTokens(t, "==", sym(0, "="), sym(1, "="))
	checkTokens(t, "=>", sym(0, "="), sym(1, ">"))
	checkTokens(t, "::=", sym(0, ":"), sym(1, ":="))
	checkTokens(t, ":==", sym(0, ":="), sym(2, "="))
	checkTokens(t, "/\\/", sym(0, "/\\"), sym(2, "/"))
	checkTokens(t, "\\/\\", sym(0, "\\/"), sym(2, "\\"))
	checkTokens(t, "\\\\/", sym(0, "\\"), sym(1, "\\/"))
	checkTokens(t, "//\\", sym(0, "/"), sym(1, "/\\"))
	checkTokens(t, "--", sym(0, "-"), sym(1, "-"))
	checkTokens(t, "~~", sym(0, "~"), sym(1, "~"))
}

// P8.2: each byte, where no other token goes on.
func TestBytes(t *testing.T) {
	foreign := "\"$%.@^_`{|}"
	for c := range 256 {
		s := string([]byte{byte(c)})
		_, _, e := checkLine(t, s)
		wrong := c < 32 || c > 126 || strings.Contains(foreign, s) || s == "#" || s == "'"
		if wrong != (e == api.ErrToken) {
			t.Errorf("%q: %d", s, e)
		}
		checkLine(t, "a "+s)
		checkLine(t, " "+s+"a")
		checkLine(t, "+"+s)
		checkLine(t, "a"+s+"a")
		checkLine(t, "1"+s+"1")
		checkLine(t, "#1"+s+"1")
		checkLine(t, "SEQ"+s)
		checkLine(t, "'a'"+s+"'a'")
		if wrong && s != "'" {
			checkWrong(t, s)
		}
	}
	checkFault(t, "a\tb", 1, api.ErrToken)
	checkFault(t, "a\nb", 1, api.ErrToken)
	checkFault(t, "a\u00a0b", 1, api.ErrToken)
	checkFault(t, "\u00e9", 0, api.ErrToken)
	checkFault(t, "a\u00e9", 1, api.ErrToken)
}

// P8.2: decimal numbers.
func TestNumbers(t *testing.T) {
	for s, n := range map[string]int32{
		"0": 0, "1": 1, "9": 9, "10": 10, "00": 0, "01": 1, "007": 7, "0000000000": 0, "0000000001": 1, "0000000010": 10, "1000000000": 1000000000,
		"2147483647": 2147483647, "2147483639": 2147483639, "2099999999": 2099999999, "1234567890": 1234567890, "0999999999": 999999999, "0123456789": 123456789,
	} {
		checkTokens(t, s, number(0, n))
		checkTokens(t, "  "+s+"  ", number(2, n))
		checkTokens(t, "-"+s+"+", sym(0, "-"), number(1, n), sym(1+len(s), "+"))
		checkTokens(t, s+"'a'"+s, number(0, n), char(len(s), 97), number(len(s)+3, n))
		checkTokens(t, s+"#1", number(0, n), number(len(s), 1))
		for _, y := range symbols {
			checkTokens(t, s+y+s, number(0, n), sym(len(s), y), number(len(s)+len(y), n))
		}
		for _, behind := range []string{"a", "A", "F", ".", ".0", "x1", "SEQ", "e1", "00000000000"} {
			checkWrong(t, s+behind)
		}
	}
	for _, s := range []string{
		"2147483648", "2147483650", "2200000000", "3000000000", "4294967295", "4294967296", "4294967297", "9999999999", "10000000000", "00000000000", "00000000001",
		"12345678901", "02147483647", "18446744073709551616", "18446744073709551617", strings.Repeat("0", 100), strings.Repeat("9", 100), "0x10", "1.5", "1..", "0.", "12ab",
	} {
		checkWrong(t, s)
	}
	checkFault(t, strings.Repeat("1", 256), 0, api.ErrToken)
	checkFault(t, "1\u0661", 1, api.ErrToken)
	checkFault(t, "1_000", 1, api.ErrToken)
}

// P8.2: hexadecimal numbers.
func TestHexadecimal(t *testing.T) {
	for s, n := range map[string]int32{
		"#0": 0, "#1": 1, "#9": 9, "#A": 10, "#F": 15, "#10": 16, "#FF": 255, "#00": 0, "#00000000": 0, "#0000000A": 10, "#12345678": 305419896, "#9ABCDEF0": -1698898192,
		"#7FFFFFFF": 2147483647, "#80000000": -2147483648, "#80000001": -2147483647, "#FFFFFFFF": -1, "#FFFFFFFE": -2, "#FFFFFFF": 268435455, "#ABCDEF": 11259375, "#DEAD": 57005,
	} {
		checkTokens(t, s, number(0, n))
		checkTokens(t, " "+s+" "+s, number(1, n), number(2+len(s), n))
		checkTokens(t, s+s, number(0, n), number(len(s), n))
		checkTokens(t, "a"+s+"'a'", name(0, "a"), number(1, n), char(1+len(s), 97))
		for _, y := range symbols {
			checkTokens(t, s+y+s, number(0, n), sym(len(s), y), number(len(s)+len(y), n))
		}
		for _, behind := range []string{"a", "f", "G", "Z", "z", ".", "x", "00000000"} {
			checkWrong(t, s+behind)
			checkWrong(t, "#"+behind+s[1:])
		}
	}
	for _, s := range []string{"#", "# 1", "##", "##1", "#-1", "#+1", "#a", "#f", "#fF", "#Ff", "#G", "#.", "#.1", "#x1", "#0x1", "#_1", "#'a'", "#123456789", "#000000000", "#FFFFFFFFF", "#12345678A", "#100000000", "#SEQ", "#BYTE", "#\u0661", "#\xff", "#" + strings.Repeat("0", 100)} {
		checkWrong(t, s)
	}
	checkFault(t, "x #", 2, api.ErrToken)
	checkFault(t, "1#", 1, api.ErrToken)
	checkFault(t, "#1#", 2, api.ErrToken)
	checkTokens(t, "#BEEF", number(0, 48879))
}

// P8.2: each byte as a character, for itself and in the escapes.
func TestCharacters(t *testing.T) {
	for c := range 256 {
		s := string([]byte{byte(c)})
		if 32 <= c && c <= 126 && s != "'" && s != "*" {
			checkTokens(t, "'"+s+"'", char(0, int32(c)))
			checkTokens(t, "'"+s+"''"+s+"'", char(0, int32(c)), char(3, int32(c)))
			checkTokens(t, " '"+s+"'a", char(1, int32(c)), name(4, "a"))
		} else {
			checkWrong(t, "'"+s+"'")
		}
		if v, is := valuesOfEscapes["*"+s]; is {
			checkTokens(t, "'*"+s+"'", char(0, v))
			checkTokens(t, "+'*"+s+"''*"+s+"'", sym(0, "+"), char(1, v), char(5, v))
		} else {
			checkWrong(t, "'*"+s+"'")
		}
		checkTokens(t, fmt.Sprintf("'*#%02X'", c), char(0, int32(c)))
		if lower := fmt.Sprintf("'*#%02x'", c); lower != strings.ToUpper(lower) {
			checkWrong(t, lower)
		}
		checkLine(t, "'*#"+s+"0'")
		checkLine(t, "'*#0"+s+"'")
		checkLine(t, "'a"+s)
		checkLine(t, "'*#00"+s)
		checkLine(t, "'*n"+s)
	}
	for s, n := range map[string]int32{"'*c'": 13, "'*n'": 10, "'*t'": 9, "'*s'": 32, "'*''": 39, "'*\"'": 34, "'**'": 42, "' '": 32, "'\"'": 34, "'#'": 35, "'*#2A'": 42, "'*#27'": 39, "'*#FF'": 255, "'*#00'": 0, "'*#7F'": 127} {
		checkTokens(t, s, char(0, n))
		checkTokens(t, s+s+" "+s, char(0, n), char(len(s), n), char(2*len(s)+1, n))
		checkTokens(t, s+"1", char(0, n), number(len(s), 1))
		checkTokens(t, "1"+s, number(0, 1), char(1, n))
		checkTokens(t, "#1"+s+"#1", number(0, 1), char(2, n), number(2+len(s), 1))
	}
}

// P8.2: what begins with a quotation mark and is no character.
func TestWrongCharacters(t *testing.T) {
	for _, s := range []string{
		"'ab'", "'  '", "'a '", "' a'", "'*nn'", "'n*'", "'*ss'",
		"'*'a", "'*e'", "'*N'", "'*0'", "'* '", "'*#'", "'*#0'", "'*#4'", "'*#4a'", "'*#a4'", "'*#ff'", "'*#fF'", "'*#G0'", "'*#0G'", "'*#123'", "'*#0 0'", "'*# 00'", "'*#00 '", "'*#-1'", "'*#+1'", "'*##0'", "'*#0''",
		"'\t'", "'\n'", "'\x00'", "'\x1f'", "'\x7f'", "'\x80'", "'\xff'", "'\u00e9'", "'a\x00'", "'*\x00'", "'*#\x000'",
		"'*#\u00e9'", "'a\"", "\"a\"", "`a`",
	} {
		checkWrong(t, s)
	}
	for _, s := range []string{"''", "'''", "'*'", "'", "'a", "'*", "'*n", "'**", "'*#", "'*#0", "'*#00", "' ", "'  ", "'\"", "'(x)"} {
		checkFault(t, s, 0, api.ErrToken)
		checkFault(t, "x + "+s, 4, api.ErrToken)
		checkFault(t, "'a'"+s, 3, api.ErrToken)
	}
	checkFault(t, "''a'", 0, api.ErrToken)
	checkFault(t, "'''a'", 0, api.ErrToken)
	checkFault(t, "'*''*'", 5, api.ErrToken)
	checkFault(t, "'**'*'", 5, api.ErrToken)
	checkFault(t, "'*'''", 4, api.ErrToken)
	checkTokens(t, "'*''*", char(0, 39), sym(4, "*"))
	checkTokens(t, "'*'''a'", char(0, 39), char(4, 97))
	checkFault(t, "'a''", 3, api.ErrToken)
	checkFault(t, "'a'b'", 4, api.ErrToken)
	checkFault(t, "x := '", 5, api.ErrToken)
	checkFault(t, "x := 'a' + 'b", 11, api.ErrToken)
	for n := range 256 {
		checkFault(t, strings.Repeat(" ", n)+"'", n, api.ErrToken)
	}
}

// P8.2: where the error is, and that the first one counts.
func TestFirstError(t *testing.T) {
	checkFault(t, "$", 0, api.ErrToken)
	checkFault(t, "$x", 0, api.ErrToken)
	checkFault(t, "x$", 1, api.ErrToken)
	checkFault(t, "x $ y", 2, api.ErrToken)
	checkFault(t, "x y $", 4, api.ErrToken)
	checkFault(t, "a {$", 2, api.ErrToken)
	checkFault(t, "a 1x 'ab' $", 2, api.ErrToken)
	checkFault(t, "a 'ab' 1x", 2, api.ErrToken)
	checkFault(t, "a #g 'ab'", 2, api.ErrToken)
	checkFault(t, "a "+strings.Repeat("b", 33)+" #", 2, api.ErrToken)
	checkFault(t, "a 1.x $", 2, api.ErrToken)
	checkFault(t, "  ''  ''", 2, api.ErrToken)
	checkFault(t, "a.1 1.a", 4, api.ErrToken)
	wrong := []string{"$", "1x", "#", "#g", "''", "'a", "2147483648", strings.Repeat("b", 33), "\x00", "\xff"}
	for i, s := range wrong {
		for k, other := range wrong {
			checkFault(t, "ab "+s+" "+other, 3, api.ErrToken)
			if i != k {
				checkLine(t, "ab "+s+other)
			}
		}
		for before := range 220 {
			line := strings.Repeat("+", before) + s + strings.Repeat(" ", 220-before)
			checkFault(t, line, before, api.ErrToken)
		}
	}
}

// P8.2: lines without tokens, and lines whose length is at the limit.
func TestLimit(t *testing.T) {
	for n := range 257 {
		checkTokens(t, strings.Repeat(" ", n))
		var want []api.Token
		for i := range n {
			want = append(want, sym(i, "+"))
		}
		checkTokens(t, strings.Repeat("+", n), want...)
	}
	spaces := strings.Repeat(" ", 257)
	checkTokens(t, spaces[:255]+"x", name(255, "x"))
	checkTokens(t, spaces[:253]+"'a'", char(253, 97))
	checkTokens(t, spaces[:252]+"#FFF", number(252, 4095))
	checkTokens(t, spaces[:254]+"12", number(254, 12))
	checkTokens(t, spaces[:254]+":=", sym(254, ":="))
	checkTokens(t, "x"+spaces[:255], name(0, "x"))
	checkFault(t, spaces[:255]+"$", 255, api.ErrToken)
	checkFault(t, spaces[:255]+"#", 255, api.ErrToken)
	checkFault(t, "$"+spaces[:255], 0, api.ErrToken)
	for _, s := range []string{"$", "'", "#", "x", "+", "1x", " "} {
		checkFault(t, s+spaces[:257-len(s)], 0, api.ErrLong)
		checkFault(t, spaces[:257-len(s)]+s, 0, api.ErrLong)
		checkFault(t, strings.Repeat(s, 300), 0, api.ErrLong)
		checkFault(t, strings.Repeat(s, 1<<20), 0, api.ErrLong)
	}
	checkFault(t, strings.Repeat("+", 257), 0, api.ErrLong)
	checkFault(t, strings.Repeat("+", 256)+"$", 0, api.ErrLong)
	checkFault(t, "$"+strings.Repeat("+", 256), 0, api.ErrLong)
}

// P8.2, P8.4: all short lines over some bytes.
func TestShortLines(t *testing.T) {
	check := func(s string) { checkLine(t, s) }
	each("'*#0Fn ", 6, check)
	each("<>=:/\\ -", 5, check)
	each("aF.09# ", 6, check)
	each("IF.1( ", 6, check)
	each("'*\"s$a(", 5, check)
}

// randomLine returns a line of parts, of which wrong in 64 are not tokens.
func randomLine(pick func(n int) int, parts, wrong int) string {
	var b strings.Builder
	for range parts {
		if pick(64) < wrong {
			b.WriteString([]string{"$", "#", "#g", "''", "'a", "'*#0'", "2147483648", "00000000000", "1x", "\t", "\x80", "{", "\"", strings.Repeat("z", 33)}[pick(14)])
		}
		switch pick(6) {
		case 0:
			b.WriteString([]string{"a", "b.1", "SEQ", "INT", "x0", "IF", "If"}[pick(7)])
		case 1:
			b.WriteString([]string{"0", "17", "007", "2147483647", "#F", "#0000FFFF", "#80000000"}[pick(7)])
		case 2:
			b.WriteString([]string{"'a'", "' '", "'*''", "'**'", "'*s'", "'*#41'", "'*\"'", "'\"'", "'*#00'"}[pick(9)])
		default:
			b.WriteString(symbols[pick(len(symbols))])
		}
		b.WriteString([]string{"", "", " ", "  "}[pick(4)])
	}
	return b.String()
}

// P8.2, P8.4: random lines.
func TestRandomLines(t *testing.T) {
	pick := random(1)
	var count [3]int
	for range 6000 {
		_, _, e := checkLine(t, randomLine(pick, pick(100), pick(4)))
		switch e {
		case api.OK:
			count[0]++
		case api.ErrToken:
			count[1]++
		case api.ErrLong:
			count[2]++
		}
	}
	if slices.Min(count[:]) < 500 {
		t.Error(count)
	}
}

// P8.4: spaces between tokens make no difference.
func TestSpacesBetween(t *testing.T) {
	pick := random(2)
	for range 1000 {
		line := randomLine(pick, 1+pick(20), 0)
		l, _, e := lex.Tokens(line)
		if e != api.OK || len(l) == 0 {
			continue
		}
		wide, from := "", 0
		var want []api.Token
		for i, x := range l {
			wide += line[from:x.At] + strings.Repeat(" ", pick(3))
			x.At, from = len(wide), x.At
			want = append(want, x)
			if i == len(l)-1 {
				wide += line[from:] + strings.Repeat(" ", pick(3))
			}
		}
		if len(wide) <= 256 {
			checkTokens(t, wide, want...)
		}
		single := strings.Trim(wide, " ")
		if got, _, _ := lex.Tokens(single); len(single) <= 256 && !slices.Equal(bare(got), bare(l)) {
			t.Fatalf("%q and %q have other tokens", line, single)
		}
	}
}

// P8.4: a line, a space and another line.
func TestTogether(t *testing.T) {
	pick := random(5)
	together, wrong := 0, 0
	for range 4000 {
		line, other := randomLine(pick, pick(30), 0), randomLine(pick, pick(30), pick(6))
		both := line + " " + other
		l, _, e := lex.Tokens(line)
		if e != api.OK || len(both) > 256 {
			continue
		}
		more, at, fault := lex.Tokens(other)
		if fault != api.OK {
			wrong++
			checkFault(t, both, len(line)+1+at, api.ErrToken)
			continue
		}
		together++
		checkTokens(t, both, append(l, moved(more, len(line)+1)...)...)
	}
	if together < 1000 || wrong < 500 {
		t.Error(together, wrong)
	}
	checkTokens(t, "a "+strings.Repeat(" ", 254), name(0, "a"))
	checkFault(t, "a "+strings.Repeat(" ", 255), 0, api.ErrLong)
}

// P8.2: results do not depend on earlier calls, and share no memory.
func TestAgain(t *testing.T) {
	line := "f(x, 'a') := #FF << SIZE y"
	a, _, _ := lex.Tokens(line)
	b, _, _ := lex.Tokens(line)
	for i := range a {
		a[i] = api.Token{Kind: 9, At: -1, Text: strconv.Itoa(i), N: -1}
	}
	a = append(a[:3], a...)
	if again, _, _ := lex.Tokens(line); !slices.Equal(again, b) || len(a) != len(b)+3 {
		t.Error(again, b)
	}
	checkFault(t, line+"$", len(line), api.ErrToken)
	checkTokens(t, line, b...)
}

// P0.1, P0.2, P8.2, P8.4: whatever a line is, its tokens are those of the chapter, and are read back from their text.
func FuzzTokens(f *testing.F) {
	for _, s := range []string{"a := b>< #FF", "'*n' '*#0A' '*''", "c ! -1", "INT.x INT", "x  $", "f(a, b[1])", "2147483648", "\xff"} {
		f.Add(s)
	}
	f.Fuzz(func(t *testing.T, s string) { checkLine(t, s) })
}
