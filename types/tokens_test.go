package types_test

import (
	"fmt"
	"math"
	"regexp"
	"slices"
	"strconv"
	"strings"
	"testing"

	"transputer/api"
	"transputer/lex"
	"transputer/types"
)

func name(s string) api.Token { return api.Token{Kind: api.TokName, Text: s} }

func key(s string) api.Token { return api.Token{Kind: api.TokKey, Text: s} }

func sym(s string) api.Token { return api.Token{Kind: api.TokSym, Text: s} }

func number(n int32) api.Token { return api.Token{Kind: api.TokNumber, N: n} }

func char(n int32) api.Token { return api.Token{Kind: api.TokByte, N: n} }

func tokens(l ...api.Token) []api.Token { return l }

// array returns the tokens of an array, in front of others.
func array(n int32, l ...api.Token) []api.Token {
	return append([]api.Token{sym("["), number(n), sym("]")}, l...)
}

// spelt are the kinds, with their words in the chapter's table.
var spelt = map[api.TypeKind]string{api.TyInt: "INT", api.TyByte: "BYTE", api.TyBool: "BOOL"}

// tokensByRules returns the tokens of a type that exists, as the table writes them.
func tokensByRules(t api.Type) (l []api.Token) {
	if t.Dim > 0 {
		l = array(int32(t.Dim))
	}
	switch {
	case t.Kind == api.TyTimer:
		return append(l, key("TIMER"))
	case t.Kind != api.TyChan:
		return append(l, key(spelt[t.Kind]))
	case t.Proto != "":
		return append(l, key("CHAN"), key("OF"), name(t.Proto))
	}
	return append(l, key("CHAN"), key("OF"), key(spelt[t.Item]))
}

// form is the pattern of the tokens that a type begins with, each marked as noted says.
var form = regexp.MustCompile(`\A(?:S\[ N([1-9]|[1-5][0-9]|6[0-4]) S\] )?(?:K(INT|BYTE|BOOL) |KCHAN KOF (?:K(INT|BYTE|BOOL)|M([A-Za-z][A-Za-z0-9.]{0,31})) )`)

// noted returns a token as form has it, or a mark for one that no type has.
func noted(x api.Token) string {
	switch {
	case x.Kind == api.TokNumber && x.Text == "":
		return fmt.Sprintf("N%d ", x.N)
	case x.N != 0 || strings.ContainsAny(x.Text, " \n"):
		return "? "
	case x.Kind == api.TokSym:
		return "S" + x.Text + " "
	case x.Kind == api.TokKey:
		return "K" + x.Text + " "
	case x.Kind == api.TokName && !slices.Contains(reserved, x.Text):
		return "M" + x.Text + " "
	}
	return "? "
}

// frontByRules returns the type that tokens begin with, and the number of its tokens: 0 if there is none.
func frontByRules(l []api.Token) (api.Type, int) {
	var b strings.Builder
	for _, x := range l[:min(len(l), 6)] {
		b.WriteString(noted(x))
	}
	if strings.HasPrefix(b.String(), "KTIMER ") {
		return api.Type{Kind: api.TyTimer}, 1
	}
	m := form.FindStringSubmatch(b.String())
	if m == nil {
		return api.Type{}, 0
	}
	kind := func(word string) api.TypeKind {
		for k, s := range spelt {
			if s == word {
				return k
			}
		}
		return api.NoType
	}
	t := api.Type{Kind: kind(m[2]), Item: kind(m[3]), Proto: m[4]}
	t.Dim, _ = strconv.Atoi(m[1])
	if m[2] == "" {
		t.Kind = api.TyChan
	}
	return t, strings.Count(m[0], " ")
}

// checkFront checks Front against the chapter's rules.
func checkFront(t *testing.T, l []api.Token) {
	t.Helper()
	was := slices.Clone(l)
	want, n := frontByRules(l)
	wantErr := api.OK
	if n == 0 {
		wantErr = api.ErrType
	}
	if got, m, e := types.Front(l); got != want || m != n || e != wantErr {
		t.Errorf("Front(%s) = %s, %d, %d, want %s, %d", brief(l), brief(got), m, e, brief(want), n)
	}
	if !slices.Equal(l, was) {
		t.Errorf("Front has changed %s to %s", brief(was), brief(l))
	}
}

// P9.2: the tokens of every type are those of the table, and Front reads them, whatever is behind them.
func TestTokens(t *testing.T) {
	behind := [][]api.Token{nil, tokens(sym(":")), tokens(name("x"), sym(":")), tokens(key("INT")), array(3, key("INT")), tokens(key("OF"), key("INT")), {{}}, {{Kind: 255, At: -1, Text: huge, N: -1}}}
	for _, x := range existing(names...) {
		want := tokensByRules(x)
		l, e := types.Tokens(x)
		if !slices.Equal(l, want) || e != api.OK {
			t.Errorf("Tokens(%s) = %s, %d, want %s", brief(x), brief(l), e, brief(want))
		}
		for _, b := range behind {
			if got, n, e := types.Front(slices.Concat(l, b)); got != x || n != len(want) || e != api.OK {
				t.Errorf("Front(%s and %s) = %s, %d, %d", brief(l), brief(b), brief(got), n, e)
			}
		}
		for n := range l {
			if got, m, e := types.Front(l[:n:n]); got != (api.Type{}) || m != 0 || e != api.ErrType {
				t.Errorf("Front(%s) = %s, %d, %d, want ErrType", brief(l[:n]), brief(got), m, e)
			}
			if got, m, e := types.Front(l[:n]); got != (api.Type{}) || m != 0 || e != api.ErrType {
				t.Errorf("Front(%s) with more behind its length = %s, %d, %d, want ErrType", brief(l[:n]), brief(got), m, e)
			}
		}
	}
}

// P9.2: there are no tokens of a type that does not exist.
func TestTokensOfNone(t *testing.T) {
	all := map[api.Type]bool{}
	for _, x := range existing(names...) {
		all[x] = true
	}
	for _, x := range candidates() {
		l, e := types.Tokens(x)
		if all[x] && e != api.OK || !all[x] && (e != api.ErrArg || len(l) != 0) {
			t.Errorf("Tokens(%s) = %s, %d", brief(x), brief(l), e)
		}
	}
}

// P9.2: the chapter's examples, and each form once, written out.
func TestTokensTable(t *testing.T) {
	for _, c := range []struct {
		x api.Type
		l []api.Token
	}{
		{api.Type{Kind: api.TyInt}, tokens(key("INT"))},
		{api.Type{Kind: api.TyByte}, tokens(key("BYTE"))},
		{api.Type{Kind: api.TyBool}, tokens(key("BOOL"))},
		{api.Type{Kind: api.TyTimer}, tokens(key("TIMER"))},
		{api.Type{Kind: api.TyInt, Dim: 1}, array(1, key("INT"))},
		{api.Type{Kind: api.TyByte, Dim: 9}, array(9, key("BYTE"))},
		{api.Type{Kind: api.TyBool, Dim: 64}, array(64, key("BOOL"))},
		{api.Type{Kind: api.TyChan, Item: api.TyInt}, tokens(key("CHAN"), key("OF"), key("INT"))},
		{api.Type{Kind: api.TyChan, Item: api.TyByte}, tokens(key("CHAN"), key("OF"), key("BYTE"))},
		{api.Type{Kind: api.TyChan, Item: api.TyBool}, tokens(key("CHAN"), key("OF"), key("BOOL"))},
		{api.Type{Kind: api.TyChan, Proto: "p.1"}, tokens(key("CHAN"), key("OF"), name("p.1"))},
		{api.Type{Kind: api.TyChan, Item: api.TyByte, Dim: 3}, array(3, key("CHAN"), key("OF"), key("BYTE"))},
		{api.Type{Kind: api.TyChan, Proto: "p", Dim: 64}, array(64, key("CHAN"), key("OF"), name("p"))},
		{api.Type{Kind: api.TyChan, Proto: "int", Dim: 1}, array(1, key("CHAN"), key("OF"), name("int"))},
	} {
		if l, e := types.Tokens(c.x); !slices.Equal(l, c.l) || e != api.OK {
			t.Errorf("Tokens(%s) = %s, %d", brief(c.x), brief(l), e)
		}
		if x, n, e := types.Front(append(c.l, sym(":"))); x != c.x || n != len(c.l) || e != api.OK {
			t.Errorf("Front(%s) = %s, %d, %d", brief(c.l), brief(x), n, e)
		}
	}
}

// P9.2: what is not the beginning of a type, one by one.
func TestNoFront(t *testing.T) {
	for _, l := range [][]api.Token{
		nil, {},
		tokens(name("x")), tokens(name("INT")), tokens(sym("INT")), tokens(sym("[")), tokens(key("OF")), tokens(key("VAL"), key("INT")),
		tokens(api.Token{}), tokens(api.Token{Text: "INT"}), tokens(api.Token{Kind: 6, Text: "INT"}), tokens(api.Token{Kind: api.TokByte, Text: "INT"}),
		tokens(api.Token{Kind: api.TokKey, Text: "INT", N: 1}), tokens(api.Token{Kind: api.TokKey, Text: "TIMER", N: -1}),
		tokens(key("int")), tokens(key("INT ")), tokens(key("IN")), tokens(key("INTS")), tokens(key("")), tokens(key(huge)),
		array(0, key("INT")), array(-1, key("INT")), array(65, key("INT")), array(math.MinInt32, key("INT")), array(math.MaxInt32, key("INT")),
		array(0, key("CHAN"), key("OF"), key("INT")), array(0, key("TIMER")), array(3, key("TIMER")), array(1, key("TIMER")),
		array(3), array(3, sym("]")), array(3, array(3, key("INT"))...), array(3, name("x")), array(3, key("OF"), key("INT")),
		tokens(sym("["), sym("]"), key("INT")), tokens(sym("["), number(3), key("INT")), tokens(number(3), sym("]"), key("INT")),
		tokens(sym("["), name("n"), sym("]"), key("INT")), tokens(sym("["), char(3), sym("]"), key("INT")), tokens(sym("["), key("INT"), sym("]"), key("INT")),
		tokens(sym("("), number(3), sym(")"), key("INT")), tokens(sym("["), number(3), sym(")"), key("INT")), tokens(sym("("), number(3), sym("]"), key("INT")),
		tokens(sym("["), number(3), sym("["), key("INT")), tokens(sym("]"), number(3), sym("]"), key("INT")),
		tokens(key("["), number(3), sym("]"), key("INT")), tokens(sym("["), number(3), key("]"), key("INT")),
		tokens(sym("["), api.Token{Kind: api.TokNumber, N: 3, Text: "3"}, sym("]"), key("INT")),
		tokens(api.Token{Kind: api.TokSym, Text: "[", N: 3}, number(3), sym("]"), key("INT")),
		tokens(sym("["), number(3), api.Token{Kind: api.TokSym, Text: "]", N: 3}, key("INT")),
		tokens(key("CHAN")), tokens(key("CHAN"), key("INT")), tokens(key("CHAN"), name("p")), tokens(key("CHAN"), key("OF")),
		tokens(key("CHAN"), name("OF"), key("INT")), tokens(key("CHAN"), key("IS"), key("INT")), tokens(name("CHAN"), key("OF"), key("INT")),
		tokens(key("CHAN"), key("OF"), key("TIMER")), tokens(key("CHAN"), key("OF"), key("CHAN"), key("OF"), key("INT")),
		tokens(key("CHAN"), key("OF"), sym("["), number(3), sym("]"), key("INT")), tokens(key("CHAN"), key("OF"), number(3)),
		tokens(key("CHAN"), key("OF"), name("INT")), tokens(key("CHAN"), key("OF"), name("TIMER")), tokens(key("CHAN"), key("OF"), name("CHAN")),
		tokens(key("CHAN"), key("OF"), name("VAL")), tokens(key("CHAN"), key("OF"), key("VAL")), tokens(key("CHAN"), key("OF"), key("p")),
		tokens(key("CHAN"), key("OF"), name("")), tokens(key("CHAN"), key("OF"), key("")), tokens(key("CHAN"), key("OF"), name("1p")),
		tokens(key("CHAN"), key("OF"), name(tooLong)), tokens(key("CHAN"), key("OF"), name(huge)), tokens(key("CHAN"), key("OF"), name("p q")),
		tokens(key("CHAN"), key("OF"), api.Token{Kind: api.TokName, Text: "p", N: 1}), tokens(key("CHAN"), key("OF"), sym("p")),
		tokens(key("CHAN"), key("OF"), api.Token{Kind: api.TokKey, Text: "INT", N: 1}),
		tokens(api.Token{Kind: api.TokKey, Text: "CHAN", N: 1}, key("OF"), key("INT")),
		tokens(key("CHAN"), api.Token{Kind: api.TokKey, Text: "OF", N: 1}, key("INT")),
	} {
		if x, n, e := types.Front(l); x != (api.Type{}) || n != 0 || e != api.ErrType {
			t.Errorf("Front(%s) = %s, %d, %d, want ErrType", brief(l), brief(x), n, e)
		}
		checkFront(t, l)
	}
}

// P9.2: all short sequences of the tokens that stand in types, and of others that resemble them.
func TestShortSequences(t *testing.T) {
	parts := []api.Token{
		sym("["), sym("]"), number(1), number(64), number(0), number(65), key("INT"), key("BYTE"), key("BOOL"), key("CHAN"), key("OF"), key("TIMER"),
		name("p"), name("INT"), key("p"), name("1"), {Kind: api.TokNumber, N: 1, Text: "1"}, {Kind: api.TokSym, Text: "[", N: 1}, sym("INT"), {},
	}
	var l []api.Token
	var each func(rest int)
	each = func(rest int) {
		checkFront(t, l)
		if rest == 0 {
			return
		}
		for _, x := range parts {
			l = append(l, x)
			each(rest - 1)
			l = l[:len(l)-1]
		}
	}
	each(4)
}

// P9.2: the tokens of a type with one field of one of them changed.
func TestChangedTokens(t *testing.T) {
	for _, x := range existing("p", longest) {
		l := tokensByRules(x)
		for i := range l {
			for _, y := range l {
				changed := slices.Clone(l)
				for _, at := range []int{1, -1, 255, math.MaxInt, math.MinInt} {
					changed[i].At = at
					if got, n, e := types.Front(changed); got != x || n != len(l) || e != api.OK {
						t.Errorf("Front(%s) = %s, %d, %d", brief(changed), brief(got), n, e)
					}
				}
				changed[i] = y
				checkFront(t, changed)
				changed[i] = l[i]
				changed[i].Kind = y.Kind
				checkFront(t, changed)
				changed[i] = l[i]
				changed[i].Text = y.Text
				checkFront(t, changed)
				changed[i] = l[i]
				changed[i].N = y.N
				checkFront(t, changed)
				changed[i].N++
				checkFront(t, changed)
				checkFront(t, slices.Delete(slices.Clone(l), i, i+1))
				checkFront(t, slices.Insert(slices.Clone(l), i, y))
			}
			for k := range 8 {
				changed := slices.Clone(l)
				changed[i].Kind = api.TokenKind(k)
				checkFront(t, changed)
			}
		}
	}
}

// P9.2: if Front returns a type, it exists, and its tokens are those that were read, except for At.
func TestTokensOfFront(t *testing.T) {
	next := random(99)
	parts := []api.Token{sym("["), sym("]"), key("CHAN"), key("OF"), key("INT"), key("BYTE"), key("BOOL"), key("TIMER"), name("p"), name("q.2"), sym(":")}
	read := 0
	for range 200000 {
		var l []api.Token
		if next(3) == 0 {
			l = array(int32(next(70) - 2))
		}
		for range next(5) {
			l = append(l, parts[next(len(parts))])
		}
		if next(3) == 0 {
			l = slices.Concat(l, tokens(key("CHAN"), key("OF")), tokens(parts[next(len(parts))], parts[next(len(parts))]))
		}
		for i := range l {
			l[i].At = next(1000) - 300
		}
		checkFront(t, l)
		x, n, e := types.Front(l)
		if e != api.OK {
			continue
		}
		read++
		own, e := types.Tokens(x)
		if !types.May(x) || e != api.OK || len(own) != n || !slices.EqualFunc(own, l[:n], sameButAt) {
			t.Errorf("Front(%s) = %s, %d, whose tokens are %s", brief(l), brief(x), n, brief(own))
		}
	}
	if read < 20000 {
		t.Errorf("only %d types were read", read)
	}
}

func sameButAt(a, b api.Token) bool {
	b.At = a.At
	return a == b
}

// P9.3: the tokens of a type, printed and read by layer 8, are its tokens.
func TestText(t *testing.T) {
	for _, x := range existing(names...) {
		l, _ := types.Tokens(x)
		s, e := lex.Text(l)
		if e != api.OK {
			t.Errorf("Text(%s) = %d", brief(l), e)
		}
		again, _, e := lex.Tokens(s)
		if e != api.OK || !slices.EqualFunc(again, l, sameButAt) {
			t.Errorf("Tokens(%s) = %s, %d, want %s", brief(s), brief(again), e, brief(l))
		}
		if got, n, e := types.Front(again); got != x || n != len(l) || e != api.OK {
			t.Errorf("Front(%s) = %s, %d, %d", brief(s), brief(got), n, e)
		}
	}
	for _, c := range []struct {
		line string
		want api.Type
		n    int
	}{
		{"INT x:", api.Type{Kind: api.TyInt}, 1},
		{"[3]CHAN OF BYTE c, d:", api.Type{Kind: api.TyChan, Dim: 3, Item: api.TyByte}, 6},
		{"[ 064 ] CHAN OF p q:", api.Type{Kind: api.TyChan, Dim: 64, Proto: "p"}, 6},
		{"TIMER clock:", api.Type{Kind: api.TyTimer}, 1},
		{"[#10]BOOL b:", api.Type{Kind: api.TyBool, Dim: 16}, 4},
	} {
		l, _, _ := lex.Tokens(c.line)
		if x, n, e := types.Front(l); x != c.want || n != c.n || e != api.OK {
			t.Errorf("Front(%s) = %s, %d, %d", c.line, brief(x), n, e)
		}
	}
	for _, line := range []string{"", "x := 1", "[-1]INT x:", "[0]INT x:", "[65]INT x:", "[n]INT x:", "['a']INT x:", "[3]TIMER t:", "[3][3]INT x:", "CHAN OF TIMER t:", "CHAN c:", "VAL INT x IS 1:"} {
		l, _, _ := lex.Tokens(line)
		if x, n, e := types.Front(l); x != (api.Type{}) || n != 0 || e != api.ErrType {
			t.Errorf("Front(%s) = %s, %d, %d, want ErrType", line, brief(x), n, e)
		}
	}
}

// R6: the tokens that are returned are new memory.
func TestTokensAreNew(t *testing.T) {
	for _, x := range existing("p") {
		l, _ := types.Tokens(x)
		for i := range l {
			l[i] = api.Token{Kind: api.TokName, At: 1, Text: "x", N: 1}
		}
		_ = append(l, l...)
		if again, e := types.Tokens(x); !slices.Equal(again, tokensByRules(x)) || e != api.OK {
			t.Errorf("Tokens(%s) = %s, %d after a change of an earlier result", brief(x), brief(again), e)
		}
	}
}

// P0.1: any tokens end in a type or in ErrType.
func FuzzFront(f *testing.F) {
	f.Add([]byte{5, 5, 3, 5, 4}, "[,],3,INT")
	f.Add([]byte{2, 2, 1}, "CHAN,OF,p")
	f.Fuzz(func(t *testing.T, spec []byte, texts string) {
		words := strings.Split(texts, ",")
		var l []api.Token
		for i, b := range spec {
			x := api.Token{Kind: api.TokenKind(b % 8), At: int(b), Text: words[i%len(words)]}
			if n, err := strconv.Atoi(x.Text); err == nil {
				x.Text, x.N = "", int32(n)
			}
			l = append(l, x)
		}
		checkFront(t, l)
	})
}
