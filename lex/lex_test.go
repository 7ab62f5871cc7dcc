package lex_test

import (
	"fmt"
	"math"
	"regexp"
	"slices"
	"strconv"
	"strings"
	"testing"

	"transputer/api"
	"transputer/lex"
)

// reserved are the words that the chapter lists.
var reserved = strings.Fields(`AFTER ALT AND BOOL BYTE CASE CHAN ELSE FALSE FOR IF INT IS MINUS NOT OF OR PAR PLACED PLUS PRI PROC PROCESSOR PROTOCOL
	SEQ SIZE SKIP STOP TIMER TIMES TRUE VAL WHILE`)

// symbols are those that the chapter lists.
var symbols = strings.Fields(`+ - * / \ /\ \/ >< << >> = <> < > <= >= ~ := ? ! & : ; , ( ) [ ]`)

// nameForm is what the chapter says of a name, reserved words aside.
var nameForm = regexp.MustCompile(`\A[A-Za-z][A-Za-z0-9.]{0,31}\z`)

// The parts of a line that the chapter tells apart by their first bytes, and what those parts must be.
var (
	wordPart      = regexp.MustCompile(`\A[A-Za-z][A-Za-z0-9.]*`)
	decimalPart   = regexp.MustCompile(`\A[0-9][A-Za-z0-9.]*`)
	decimalForm   = regexp.MustCompile(`\A[0-9]{1,10}\z`)
	hexPart       = regexp.MustCompile(`\A#[A-Za-z0-9.]*`)
	hexForm       = regexp.MustCompile(`\A#[0-9A-F]{1,8}\z`)
	characterForm = regexp.MustCompile(`\A'([ -&(-)+-~]|\*[cnts'"*]|\*#[0-9A-F]{2})'`)
)

// valuesOfEscapes are the values of the characters of two bytes.
var valuesOfEscapes = map[string]int32{"*c": 13, "*n": 10, "*t": 9, "*s": 32, "*'": 39, "*\"": 34, "**": 42}

// random returns numbers in a fixed order without a pattern.
func random(seed uint32) func(n int) int {
	return func(n int) int {
		seed = seed*1664525 + 1013904223
		return int(seed>>9) % n
	}
}

func name(at int, s string) api.Token { return api.Token{Kind: api.TokName, At: at, Text: s} }

func key(at int, s string) api.Token { return api.Token{Kind: api.TokKey, At: at, Text: s} }

func sym(at int, s string) api.Token { return api.Token{Kind: api.TokSym, At: at, Text: s} }

func number(at int, n int32) api.Token { return api.Token{Kind: api.TokNumber, At: at, N: n} }

func char(at int, n int32) api.Token { return api.Token{Kind: api.TokByte, At: at, N: n} }

func tokens(l ...api.Token) []api.Token { return l }

// moved returns tokens with another At: each is by bytes later.
func moved(l []api.Token, by int) []api.Token {
	l = slices.Clone(l)
	for i := range l {
		l[i].At += by
	}
	return l
}

// bare returns tokens with At 0.
func bare(l []api.Token) []api.Token {
	l = slices.Clone(l)
	for i := range l {
		l[i].At = 0
	}
	return l
}

// brief returns what a message shows of a value.
func brief(x any) string {
	s := fmt.Sprintf("%q", fmt.Sprint(x))
	return s[:min(300, len(s))]
}

func checkTokens(t *testing.T, line string, want ...api.Token) {
	t.Helper()
	l, at, e := lex.Tokens(line)
	if !slices.Equal(l, want) || at != 0 || e != api.OK {
		t.Errorf("Tokens(%s) = %s, %d, %d, want %s", brief(line), brief(l), at, e, brief(want))
	}
}

func checkFault(t *testing.T, line string, at int, e api.Errno) {
	t.Helper()
	l, got, fault := lex.Tokens(line)
	if len(l) != 0 || got != at || fault != e {
		t.Errorf("Tokens(%s) = %s, %d, %d, want %d, %d", brief(line), brief(l), got, fault, at, e)
	}
}

// checkWrong checks that a token cannot be read, at the beginning of a line and behind others.
func checkWrong(t *testing.T, s string) {
	t.Helper()
	checkFault(t, s, 0, api.ErrToken)
	checkFault(t, "  "+s, 2, api.ErrToken)
	checkFault(t, "x := "+s, 5, api.ErrToken)
	checkFault(t, "'a'"+s, 3, api.ErrToken)
	checkFault(t, "("+s, 1, api.ErrToken)
	checkFault(t, s+" $ ", 0, api.ErrToken)
}

func checkText(t *testing.T, want string, l ...api.Token) {
	t.Helper()
	if s, e := lex.Text(l); s != want || e != api.OK {
		t.Errorf("Text(%s) = %s, %d, want %s", brief(l), brief(s), e, brief(want))
	}
}

func checkNoText(t *testing.T, e api.Errno, l []api.Token) {
	t.Helper()
	if s, got := lex.Text(l); s != "" || got != e {
		t.Errorf("Text(%s) = %s, %d, want %d", brief(l), brief(s), got, e)
	}
}

// checkMay checks May, and that Text agrees with it.
func checkMay(t *testing.T, x api.Token, want bool) {
	t.Helper()
	if lex.May(x) != want {
		t.Errorf("May(%s) is not %t", brief(x), want)
	}
	if want {
		if s, e := lex.Text(tokens(x)); s == "" || e != api.OK {
			t.Errorf("Text(%s) = %q, %d", brief(x), s, e)
		}
		return
	}
	checkNoText(t, api.ErrArg, tokens(x))
	checkNoText(t, api.ErrArg, tokens(name(0, "a"), x, sym(0, "+")))
}

func isReserved(s string) bool { return slices.Contains(reserved, s) }

func isNameByRules(s string) bool { return nameForm.MatchString(s) && !isReserved(s) }

func checkWord(t *testing.T, s string) {
	t.Helper()
	if lex.Name(s) != isNameByRules(s) || lex.Key(s) != isReserved(s) {
		t.Errorf("%.100q: Name %t, Key %t", s, lex.Name(s), lex.Key(s))
	}
}

// mayByRules tells whether the chapter says that x exists.
func mayByRules(x api.Token) bool {
	if x.At < 0 || x.At > 255 {
		return false
	}
	switch x.Kind {
	case api.TokName:
		return x.N == 0 && isNameByRules(x.Text)
	case api.TokKey:
		return x.N == 0 && isReserved(x.Text)
	case api.TokSym:
		return x.N == 0 && slices.Contains(symbols, x.Text)
	case api.TokNumber:
		return x.Text == ""
	case api.TokByte:
		return x.Text == "" && x.N >= 0 && x.N <= 255
	}
	return false
}

// characterByRules returns the value of a character between quotation marks.
func characterByRules(s string) int32 {
	if v, is := valuesOfEscapes[s]; is {
		return v
	}
	if digits, is := strings.CutPrefix(s, "*#"); is {
		v, _ := strconv.ParseInt(digits, 16, 32)
		return int32(v)
	}
	return int32(s[0])
}

// tokenByRules returns the token with which s begins, and its size; the size is 0 if there is none.
func tokenByRules(s string) (x api.Token, size int) {
	if part := wordPart.FindString(s); part != "" {
		switch {
		case isReserved(part):
			return key(0, part), len(part)
		case isNameByRules(part):
			return name(0, part), len(part)
		}
		return x, 0
	}
	if part := decimalPart.FindString(s); part != "" {
		v, _ := strconv.ParseInt(part, 10, 64)
		if !decimalForm.MatchString(part) || v > 2147483647 {
			return x, 0
		}
		return number(0, int32(v)), len(part)
	}
	if part := hexPart.FindString(s); part != "" {
		if !hexForm.MatchString(part) {
			return x, 0
		}
		v, _ := strconv.ParseUint(part[1:], 16, 64)
		return number(0, int32(uint32(v))), len(part)
	}
	if m := characterForm.FindStringSubmatch(s); m != nil {
		return char(0, characterByRules(m[1])), len(m[0])
	}
	longest := ""
	for _, y := range symbols {
		if strings.HasPrefix(s, y) && len(y) > len(longest) {
			longest = y
		}
	}
	return sym(0, longest), len(longest)
}

// tokensByRules returns what the chapter says of a line.
func tokensByRules(line string) (l []api.Token, at int, e api.Errno) {
	if len(line) > 256 {
		return nil, 0, api.ErrLong
	}
	for i := 0; i < len(line); {
		if line[i] == ' ' {
			i++
			continue
		}
		x, size := tokenByRules(line[i:])
		if size == 0 {
			return nil, i, api.ErrToken
		}
		x.At = i
		l = append(l, x)
		i += size
	}
	return l, 0, api.OK
}

// textOfTokenByRules returns the text of a token that exists.
func textOfTokenByRules(x api.Token) string {
	switch x.Kind {
	case api.TokNumber:
		if x.N < 0 {
			return fmt.Sprintf("#%08X", uint32(x.N))
		}
		return fmt.Sprintf("%d", x.N)
	case api.TokByte:
		for _, s := range []string{"*c", "*n", "*t", "*'", "**"} {
			if valuesOfEscapes[s] == x.N {
				return "'" + s + "'"
			}
		}
		if x.N < 32 || x.N > 126 {
			return fmt.Sprintf("'*#%02X'", x.N)
		}
		return fmt.Sprintf("'%c'", x.N)
	}
	return x.Text
}

// isSpacedByRules tells whether there is a space between two tokens.
func isSpacedByRules(a, b api.Token) bool {
	if b.Kind == api.TokSym && slices.Contains([]string{",", ";", ":", ")", "]"}, b.Text) {
		return false
	}
	if a.Kind == api.TokSym && (a.Text == "(" || a.Text == "[") {
		return false
	}
	return a.Kind != api.TokName || b.Kind != api.TokSym || b.Text != "(" && b.Text != "["
}

// textByRules returns what the chapter says of tokens.
func textByRules(l []api.Token) (string, api.Errno) {
	s := ""
	for i, x := range l {
		if !mayByRules(x) {
			return "", api.ErrArg
		}
		if i > 0 && isSpacedByRules(l[i-1], x) {
			s += " "
		}
		s += textOfTokenByRules(x)
	}
	if len(s) > 256 {
		return "", api.ErrLong
	}
	return s, api.OK
}

// checkLine compares Tokens(line) with the chapter's rules, and its tokens with the chapter's promises.
func checkLine(t *testing.T, line string) (l []api.Token, at int, e api.Errno) {
	t.Helper()
	l, at, e = lex.Tokens(line)
	want, place, fault := tokensByRules(line)
	if !slices.Equal(l, want) || at != place || e != fault {
		t.Fatalf("Tokens(%q) = %v, %d, %d, want %v, %d, %d", line, l, at, e, want, place, fault)
	}
	if e != api.OK {
		return l, at, e
	}
	last := -1
	for _, x := range l {
		if !lex.May(x) || x.At <= last {
			t.Fatalf("Tokens(%q) = %v", line, l)
		}
		last = x.At
	}
	checkWritten(t, l)
	return l, at, e
}

// checkWritten compares Text(l) with the chapter's rules, and reads it back.
func checkWritten(t *testing.T, l []api.Token) {
	t.Helper()
	s, e := lex.Text(l)
	want, fault := textByRules(l)
	if s != want || e != fault {
		t.Fatalf("Text(%v) = %q, %d, want %q, %d", l, s, e, want, fault)
	}
	if e != api.OK {
		return
	}
	back, at, e := lex.Tokens(s)
	if !slices.Equal(bare(back), bare(l)) || at != 0 || e != api.OK {
		t.Fatalf("Text(%v) = %q, whose tokens are %v, %d, %d", l, s, back, at, e)
	}
	if again, e := lex.Text(back); again != s || e != api.OK {
		t.Fatalf("%q is written as %q, %d", s, again, e)
	}
}

// each calls f with all strings of at most n of the letters.
func each(letters string, n int, f func(s string)) {
	f("")
	if n == 0 {
		return
	}
	for i := range len(letters) {
		each(letters, n-1, func(s string) { f(letters[i:i+1] + s) })
	}
}

// P8.1, P8.2, P8.3: the chapter's examples.
func TestChapter(t *testing.T) {
	checkTokens(t, "a := b>< #FF", name(0, "a"), sym(2, ":="), name(5, "b"), sym(6, "><"), number(9, 255))
	checkTokens(t, "'*n' '*#0A' '*''", char(0, 10), char(5, 10), char(12, 39))
	checkTokens(t, "c ! -1", name(0, "c"), sym(2, "!"), sym(4, "-"), number(5, 1))
	checkTokens(t, "INT.x INT", name(0, "INT.x"), key(6, "INT"))
	checkTokens(t, "")
	checkFault(t, "x  $", 3, api.ErrToken)
	checkFault(t, "#12345678A", 0, api.ErrToken)
	checkFault(t, "a 2147483648", 2, api.ErrToken)
	checkFault(t, "'ab'", 0, api.ErrToken)
	checkFault(t, "x := 12ab", 5, api.ErrToken)
	checkText(t, "#FFFFFFFF + '*#00'", number(0, -1), sym(0, "+"), char(0, 0))
	l, _, _ := lex.Tokens("f (a,b [ 1 ])")
	checkText(t, "f(a, b[1])", l...)
	if !lex.Name("from.host") || lex.Name("SEQ") || lex.Key("Seq") || lex.May(char(0, 256)) {
		t.Error("Name, Key or May")
	}
}

// P8.1: the reserved words, and words that are like them.
func TestKeys(t *testing.T) {
	if len(reserved) != 33 {
		t.Fatal(len(reserved))
	}
	for _, s := range reserved {
		if !lex.Key(s) || lex.Name(s) {
			t.Errorf("%s: Key %t, Name %t", s, lex.Key(s), lex.Name(s))
		}
		checkTokens(t, s, key(0, s))
		checkTokens(t, " "+s+"+"+s, key(1, s), sym(1+len(s), "+"), key(2+len(s), s))
		lower := strings.ToLower(s)
		mixed := s[:1] + lower[1:]
		for _, other := range []string{lower, mixed, s + ".", s + "0", s + "x", s + "A", s + s, "x" + s, "A" + s, s[:len(s)-1] + "a"} {
			if lex.Key(other) || !lex.Name(other) {
				t.Errorf("%s: Key %t, Name %t", other, lex.Key(other), lex.Name(other))
			}
			checkTokens(t, other, name(0, other))
		}
		for _, other := range []string{" " + s, s + " ", s + "\n", s + "_", s + "\x00", "1" + s, "." + s, s + " " + s, s[:1] + " " + s[1:]} {
			if lex.Key(other) || lex.Name(other) {
				t.Errorf("%q: Key %t, Name %t", other, lex.Key(other), lex.Name(other))
			}
		}
		for i := range len(s) {
			checkWord(t, s[:i])
			checkWord(t, s[i:])
		}
	}
}

// P8.1: names, and strings that are none.
func TestNames(t *testing.T) {
	x32 := "q" + strings.Repeat("9.Zz", 7) + "end"
	for _, s := range []string{"a", "z", "A", "Z", "a.", "a..", "a.1", "x1", "from.host", "Z9.z", "A.b.3.c", "a0123456789", strings.Repeat("m", 32), x32, x32[:31]} {
		if !lex.Name(s) || lex.Key(s) {
			t.Errorf("%s: Name %t, Key %t", s, lex.Name(s), lex.Key(s))
		}
		checkTokens(t, s, name(0, s))
		checkMay(t, name(0, s), true)
		checkText(t, s, name(0, s))
	}
	for _, s := range []string{"", ".", ".a", "1", "1a", "0x", "a b", "a ", " a", "a_b", "_", "a-b", "a\n", "a'", "#a", "\x00", "a\x00", "\u00e9", "a\u00e9", "\xff", strings.Repeat("m", 33), x32 + "x", strings.Repeat("m", 1<<20), strings.Repeat(".", 32)} {
		if lex.Name(s) || lex.Key(s) {
			t.Errorf("%.50q: Name %t, Key %t", s, lex.Name(s), lex.Key(s))
		}
		checkMay(t, name(0, s), false)
		checkMay(t, key(0, s), false)
	}
	for c := range 256 {
		b := string([]byte{byte(c)})
		for _, s := range []string{b, b + "a", "a" + b, "a" + b + "a", strings.Repeat("m", 31) + b} {
			checkWord(t, s)
		}
	}
	checkWrong(t, strings.Repeat("m", 33))
	checkWrong(t, x32+".")
	checkWrong(t, strings.Repeat("SEQ", 20))
	checkFault(t, strings.Repeat("m", 256), 0, api.ErrToken)
	checkTokens(t, x32+" "+x32+"+", name(0, x32), name(33, x32), sym(65, "+"))
}

// P8.1: which tokens exist.
func TestMay(t *testing.T) {
	for kind := range 7 {
		for _, text := range []string{"", "a", "SEQ", "+", ":=", "1", " ", "a b", "seq", "==", "'a'"} {
			for _, n := range []int32{math.MinInt32, -1, 0, 1, 97, 255, 256, math.MaxInt32} {
				for _, at := range []int{math.MinInt, -1, 0, 1, 255, 256, math.MaxInt} {
					x := api.Token{Kind: api.TokenKind(kind), At: at, Text: text, N: n}
					checkMay(t, x, mayByRules(x))
				}
			}
		}
	}
	for kind := range 256 {
		checkMay(t, api.Token{Kind: api.TokenKind(kind), Text: "a"}, kind == 1)
		checkMay(t, api.Token{Kind: api.TokenKind(kind), Text: "IF"}, kind == 2)
		checkMay(t, api.Token{Kind: api.TokenKind(kind)}, kind == 3 || kind == 4)
		checkMay(t, api.Token{Kind: api.TokenKind(kind), Text: "<<"}, kind == 5)
	}
}

// P8.1: tokens that exist, each with one thing changed.
func TestMayChanged(t *testing.T) {
	checkMay(t, api.Token{}, false)
	checkMay(t, api.Token{Text: "a"}, false)
	checkMay(t, api.Token{Kind: 6}, false)
	for _, x := range tokens(name(0, "a"), key(0, "OF"), number(0, 7), char(0, 7), sym(0, "~")) {
		for at, want := range map[int]bool{-1: false, 0: true, 1: true, 255: true, 256: false, 1 << 32: false, -1 << 32: false, 1<<32 + 1: false} {
			x.At = at
			checkMay(t, x, want)
		}
	}
	checkMay(t, api.Token{Kind: api.TokName, Text: "a", N: 1}, false)
	checkMay(t, api.Token{Kind: api.TokKey, Text: "IF", N: -1}, false)
	checkMay(t, api.Token{Kind: api.TokSym, Text: "+", N: 43}, false)
	checkMay(t, api.Token{Kind: api.TokNumber, Text: "7", N: 7}, false)
	checkMay(t, api.Token{Kind: api.TokByte, Text: "a", N: 97}, false)
	for n, want := range map[int32]bool{math.MinInt32: false, -1: false, 0: true, 1: true, 254: true, 255: true, 256: false, math.MaxInt32: false} {
		checkMay(t, char(0, n), want)
		checkMay(t, number(0, n), true)
	}
	for _, s := range []string{"", " ", "a", "SEQ", "seq", "1", "=<", "==", "=>", ":-", "+ ", " +", "++", "::=", "<=>", "< =", "#", "'", "\"", ".", "%", "$", "@", "^", "_", "`", "{", "|", "}", "()", "--", "//", "\u00ac"} {
		checkMay(t, sym(0, s), false)
	}
	for _, s := range append(slices.Clone(symbols), "seq", "SE", "SEQ ", "IF INT", "a", "") {
		checkMay(t, key(0, s), false)
	}
	for _, s := range append(slices.Clone(symbols), reserved...) {
		checkMay(t, name(0, s), false)
	}
}
