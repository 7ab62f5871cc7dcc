package layout_test

import (
	"math"
	"regexp"
	"slices"
	"strconv"
	"strings"
	"testing"

	"transputer/api"
	"transputer/layout"
)

// continuing are the bytes that make a line continue.
const continuing = ",;([+-*/\\=<>~&"

// contentForm divides a line without its comment.
var contentForm = regexp.MustCompile(`\A( *)(.*?) *\z`)

// textForm is what the chapter says of the text of a row, adjacent hyphens aside.
var textForm = regexp.MustCompile(`\A[!-~]([ -~]{0,254}[!-~])?\z`)

// random returns numbers in a fixed order without a pattern.
func random(seed uint32) func() uint32 {
	return func() uint32 {
		seed = seed*1664525 + 1013904223
		return seed>>9 ^ seed<<17
	}
}

func row(number, depth int, text string) api.Row {
	return api.Row{No: number, Depth: depth, Text: text}
}

func rows(l ...api.Row) []api.Row { return l }

// written returns the source text of lines that are separated by |.
func written(s string) string { return strings.ReplaceAll(s, "|", "\n") }

func checkRows(t *testing.T, src string, want []api.Row) {
	t.Helper()
	l, line, e := layout.Rows(src)
	if !slices.Equal(l, want) || line != 0 || e != api.OK {
		t.Errorf("Rows(%.80q) = %v, %d, %d, want %v", src, l, line, e, want)
	}
}

func checkFault(t *testing.T, src string, line int, e api.Errno) {
	t.Helper()
	l, at, got := layout.Rows(src)
	if len(l) != 0 || at != line || got != e {
		t.Errorf("Rows(%.80q): %d rows, line %d, error %d, want line %d, error %d", src, len(l), at, got, line, e)
	}
}

func checkMay(t *testing.T, l []api.Row, want bool) {
	t.Helper()
	if layout.May(l) != want {
		t.Errorf("May(%.200v) is not %t", l, want)
	}
	src, e := layout.Source(l)
	if !want && (src != "" || e != api.ErrArg) || want && e == api.ErrArg {
		t.Errorf("Source(%.200v) = %.80q, %d", l, src, e)
	}
}

func TestChapter(t *testing.T) {
	checkRows(t, written("SEQ -- two|  x := 1||  y := x +|   2"), []api.Row{row(1, 0, "SEQ"), row(2, 1, "x := 1"), row(4, 1, "y := x + 2")})
	checkFault(t, written("SEQ| x := 1"), 2, api.ErrIndent)
	checkFault(t, written("SEQ|    x := 1"), 2, api.ErrIndent)
	checkFault(t, "  SKIP", 1, api.ErrIndent)
	checkFault(t, written("x := 1 +|-- end"), 1, api.ErrForm)
	checkFault(t, written("SEQ|  x :=| 1"), 3, api.ErrIndent)
	if s, e := layout.Source([]api.Row{row(7, 0, "SEQ"), row(9, 1, "SKIP")}); s != "SEQ\n  SKIP\n" || e != api.OK {
		t.Errorf("%q, %d", s, e)
	}
}

// TestNothing has texts without content.
func TestNothing(t *testing.T) {
	for _, s := range []string{"", "|", "||", " ", "   |", "   | |", "--", "-- a", "  -- a|", "|--- a| --|", "---", " ---- x := 1 +|"} {
		checkRows(t, written(s), nil)
	}
}

// TestLineFeed has texts with and without a line feed at their end.
func TestLineFeed(t *testing.T) {
	want := []api.Row{row(1, 0, "SEQ"), row(2, 1, "SKIP")}
	for _, s := range []string{"SEQ|  SKIP", "SEQ|  SKIP|", "SEQ|  SKIP||", "SEQ|  SKIP  ", "SEQ|  SKIP--|", "SEQ  |  SKIP |  ", "SEQ --a|  SKIP -- b|--"} {
		checkRows(t, written(s), want)
	}
	checkRows(t, written("||SEQ||  SKIP"), []api.Row{row(3, 0, "SEQ"), row(5, 1, "SKIP")})
	checkRows(t, "a", []api.Row{row(1, 0, "a")})
	checkRows(t, written("|~ !||  }  {"), rows(row(2, 0, "~ !"), row(4, 1, "}  {")))
}

// TestSize has texts whose length is at the limit.
func TestSize(t *testing.T) {
	line := strings.Repeat("x", 255) + "\n"
	full := strings.Repeat(line, 256)
	var want []api.Row
	for i := range 256 {
		want = append(want, row(i+1, 0, line[:255]))
	}
	checkRows(t, full, want)
	checkFault(t, full+"\n", 0, api.ErrLong)
	checkFault(t, full+"x", 0, api.ErrLong)
	checkFault(t, "\x01"+full, 0, api.ErrLong)
	checkFault(t, "  "+full[1:], 0, api.ErrLong)
	checkFault(t, strings.Repeat(" ", 65537), 0, api.ErrLong)
	checkFault(t, strings.Repeat("\n", 1<<20), 0, api.ErrLong)
	checkRows(t, strings.Repeat(" ", 65536), nil)
	checkRows(t, strings.Repeat("-", 65536), nil)
	checkRows(t, strings.Repeat("\n", 65535)+"x", []api.Row{row(65536, 0, "x")})
	checkRows(t, strings.Repeat("\n", 65534)+"x\n", []api.Row{row(65535, 0, "x")})
	checkFault(t, strings.Repeat("\n", 65535)+",", 65536, api.ErrForm)
	checkFault(t, strings.Repeat("\n", 65535)+"\x00", 65536, api.ErrForm)
	checkFault(t, strings.Repeat("\n", 65534)+" x", 65535, api.ErrIndent)
}

// TestBytes has each byte at each kind of place.
func TestBytes(t *testing.T) {
	places := []struct {
		before, behind string
		line           int
	}{
		{"", "", 1},
		{"x", "y", 1},
		{"x ", "", 1},
		{"  ", "", 1},
		{"x -- ", "", 1},
		{"--", "", 1},
		{"-", "- y", 1},
		{"SEQ|  ", "x", 2},
		{"SEQ|  x |", "||x", 3},
		{"SEQ||  | ", " |  x", 4},
		{"SEQ|-- a|  x := 1 -- a", "b|y", 3},
		{" odd|     deep|", "", 3},
		{"x := 1 +|", "", 2},
		{strings.Repeat("x", 300) + "|", "|", 2},
	}
	for c := range 256 {
		for _, p := range places {
			src := written(p.before) + string([]byte{byte(c)}) + written(p.behind)
			_, line, e := layout.Rows(src)
			if c == '\n' || 32 <= c && c <= 126 {
				if e == api.ErrForm && !strings.Contains(p.before, "+") && strings.IndexByte(continuing, byte(c)) < 0 {
					t.Errorf("%q: %d in line %d", src, e, line)
				}
				continue
			}
			checkFault(t, src, p.line, api.ErrForm)
			checkFault(t, src+"\r", p.line, api.ErrForm)
			checkFault(t, src+"\n\x7f", p.line, api.ErrForm)
		}
	}
	checkFault(t, "SEQ\r\n  SKIP\r\n", 1, api.ErrForm)
	checkFault(t, "SEQ\n  SKIP\r\n\x1f", 2, api.ErrForm)
	checkFault(t, "SEQ\n\t\n\x7f", 2, api.ErrForm)
	checkFault(t, "x -- a\u00e9", 1, api.ErrForm)
	for c := 32; c <= 126; c++ {
		checkRows(t, "a"+string(rune(c))+"b", []api.Row{row(1, 0, "a"+string(rune(c))+"b")})
	}
}

// TestHyphens tells comments from hyphens that continue.
func TestHyphens(t *testing.T) {
	for _, x := range []struct {
		src, text string
	}{
		{"a --", "a"},
		{"a--b", "a"},
		{"a---b", "a"},
		{"a - b", "a - b"},
		{"a - -b", "a - -b"},
		{"a - --b|c", "a - c"},
		{"a ---b", "a"},
		{"a + -- b|c", "a + c"},
		{"a +--b|c", "a + c"},
		{"a -|b", "a - b"},
		{"a-|-b", "a- -b"},
		{"a-|-b--", "a- -b"},
		{"a -|- -|-|-b", "a - - - - -b"},
		{"-|-|a", "- - a"},
		{"-|--|a", "- a"},
		{"-a", "-a"},
		{"a-b-c", "a-b-c"},
		{"a := \"--\"", "a := \""},
		{"a -  --|-- -|b -- -", "a - b"},
	} {
		checkRows(t, written(x.src), []api.Row{row(1, 0, x.text)})
	}
	checkFault(t, written("a -"), 1, api.ErrForm)
	checkFault(t, written("a - -"), 1, api.ErrForm)
	checkFault(t, written("a|-|"), 2, api.ErrForm)
	checkFault(t, written("a - --b|"), 1, api.ErrForm)
	checkFault(t, written("a-|-"), 2, api.ErrForm)
}

// TestContinue has each byte at the end of a line.
func TestContinue(t *testing.T) {
	for c := byte(33); c <= 126; c++ {
		s := "a" + string(c)
		if strings.IndexByte(continuing, c) < 0 {
			checkRows(t, s+"\nb", []api.Row{row(1, 0, s), row(2, 0, "b")})
			checkRows(t, s, []api.Row{row(1, 0, s)})
			checkMay(t, []api.Row{row(1, 0, s)}, true)
			checkMay(t, []api.Row{row(1, 0, string(c))}, true)
			continue
		}
		for _, between := range []string{"|", " |", "|  |", " --|", "|-- c,|", " -- +|||  --|   |", " --|--|"} {
			checkRows(t, written(s+between+"b"), []api.Row{row(1, 0, s+" b")})
			checkRows(t, written("|"+s+between+"  b  |c"), []api.Row{row(2, 0, s+" b"), row(3+strings.Count(between, "|"), 0, "c")})
			checkFault(t, written(s+between), 1, api.ErrForm)
			checkFault(t, written("x|  "+s+between), 2, api.ErrForm)
			checkFault(t, written("x|  "+s+between+" b"), 2+strings.Count(between, "|"), api.ErrIndent)
		}
		checkRows(t, string(c)+"\nb", []api.Row{row(1, 0, string(c)+" b")})
		checkFault(t, string(c), 1, api.ErrForm)
		checkMay(t, []api.Row{row(1, 0, s)}, false)
		checkMay(t, []api.Row{row(1, 0, string(c))}, false)
		checkMay(t, []api.Row{row(1, 0, s+"b")}, true)
	}
}

// TestContinuations has logical lines of several lines.
func TestContinuations(t *testing.T) {
	for _, x := range []struct {
		src  string
		want []api.Row
	}{
		{"a,|b,|c,|d|e", rows(row(1, 0, "a, b, c, d"), row(5, 0, "e"))},
		{"a|  b,|  c|  d", rows(row(1, 0, "a"), row(2, 1, "b, c"), row(4, 1, "d"))},
		{"a|  b,|   c|d", rows(row(1, 0, "a"), row(2, 1, "b, c"), row(4, 0, "d"))},
		{"a|  b,|         c,|     d,|  e|f", rows(row(1, 0, "a"), row(2, 1, "b, c, d, e"), row(6, 0, "f"))},
		{"a,|      b|  c", rows(row(1, 0, "a, b"), row(3, 1, "c"))},
		{"a,||--x|| b,|--||c||  d", rows(row(1, 0, "a, b, c"), row(10, 1, "d"))},
		{"a ,  |   b  c   ", rows(row(1, 0, "a , b  c"))},
		{"a(|)|[|]|b := [|1,|2]", rows(row(1, 0, "a( )"), row(3, 0, "[ ]"), row(5, 0, "b := [ 1, 2]"))},
	} {
		checkRows(t, written(x.src), x.want)
	}
	checkFault(t, written("a|  b,|  c,| d"), 4, api.ErrIndent)
	checkFault(t, written("a|  b,|c,|d"), 3, api.ErrIndent)
	checkFault(t, written("a|  b|    c,||   d|"), 5, api.ErrIndent)
	checkFault(t, written("a,|b,|c,|"), 3, api.ErrForm)
	checkFault(t, written("a,|b,||--|"), 2, api.ErrForm)
	long := strings.Repeat(",\n", 32767) + "x"
	checkFault(t, long, 1, api.ErrLong)
	checkFault(t, long[:65534], 32767, api.ErrForm)
	checkRows(t, strings.Repeat(",\n", 127)+"xx", []api.Row{row(1, 0, strings.Repeat(", ", 127)+"xx")})
	checkFault(t, strings.Repeat(",\n", 127)+"xxx", 1, api.ErrLong)
}

// TestIndentations has indentations that are allowed, and that are not.
func TestIndentations(t *testing.T) {
	checkRows(t, written("a|  b|    c|      d|e"), rows(row(1, 0, "a"), row(2, 1, "b"), row(3, 2, "c"), row(4, 3, "d"), row(5, 0, "e")))
	checkRows(t, written("a|  b|    c|  d|    e|    f"), rows(row(1, 0, "a"), row(2, 1, "b"), row(3, 2, "c"), row(4, 1, "d"), row(5, 2, "e"), row(6, 2, "f")))
	checkRows(t, written("    |      -- a|a|  b|      --|"), rows(row(3, 0, "a"), row(4, 1, "b")))
	for s, line := range map[string]int{
		" a": 1, "  a": 1, "   a": 1, "    a": 1, "||  a": 3,
		"a| b": 2, "a|   b": 2, "a|    b": 2, "a|     b": 2, "a||      b": 3,
		"a|  b|   c": 3, "a|  b|      c": 3, "a|  b|     c": 3, "a|  b|c|    d": 4, "a|  b| c|d": 3,
		"a|  b|    c|  d|      e": 5,
	} {
		checkFault(t, written(s), line, api.ErrIndent)
	}
}

// stairs returns n lines, each deeper than the one before it.
func stairs(n int) string {
	var b strings.Builder
	for i := range n {
		b.WriteString(strings.Repeat("  ", i) + "a\n")
	}
	return b.String()
}

// TestLimits has depths, texts and numbers of logical lines at their limits.
func TestLimits(t *testing.T) {
	l, line, e := layout.Rows(stairs(33))
	if len(l) != 33 || l[32] != row(33, 32, "a") || line != 0 || e != api.OK {
		t.Error(l, line, e)
	}
	checkFault(t, stairs(34), 34, api.ErrLong)
	checkFault(t, stairs(40), 34, api.ErrLong)
	checkFault(t, stairs(33)+strings.Repeat(" ", 65)+"a", 34, api.ErrIndent)
	checkFault(t, stairs(33)+strings.Repeat(" ", 68)+"a", 34, api.ErrIndent)
	text := strings.Repeat("y", 255)
	checkRows(t, text+"z", []api.Row{row(1, 0, text+"z")})
	checkFault(t, "a\n"+text+"zz", 2, api.ErrLong)
	checkRows(t, "a\n"+text[:200]+" ,\n"+text[:53], []api.Row{row(1, 0, "a"), row(2, 0, text[:200]+" , "+text[:53])})
	checkFault(t, "a\n"+text[:200]+" ,\n"+text[:54], 2, api.ErrLong)
	checkRows(t, text+"z      -- a comment", []api.Row{row(1, 0, text+"z")})
	checkRows(t, "a\n  "+text+"z", []api.Row{row(1, 0, "a"), row(2, 1, text+"z")})
	many := strings.Repeat("\na", 2048)
	l, line, e = layout.Rows(many)
	if len(l) != 2048 || l[2047] != row(2049, 0, "a") || line != 0 || e != api.OK {
		t.Error(len(l), line, e)
	}
	checkFault(t, many+"\n--\nb", 2051, api.ErrLong)
	checkFault(t, many+many, 2050, api.ErrLong)
	l, _, e = layout.Rows(strings.Repeat("a,\nb\n", 2048))
	if len(l) != 2048 || l[2047] != row(4095, 0, "a, b") || e != api.OK {
		t.Error(len(l), e)
	}
	checkFault(t, strings.Repeat("a,\nb\n", 2049), 4097, api.ErrLong)
}

// TestOrder has texts with several errors.
func TestOrder(t *testing.T) {
	wide := strings.Repeat("x", 256)
	many := strings.Repeat("a\n", 2048)
	for _, x := range []struct {
		src  string
		line int
		e    api.Errno
	}{
		// in one logical line
		{" a,|", 1, api.ErrIndent},
		{" a,|b", 1, api.ErrIndent},
		{"  a,|b", 1, api.ErrIndent},
		{"a|  b,|c,|", 3, api.ErrIndent},
		{"a|  b,|  c,|d,|", 4, api.ErrIndent},
		{" " + wide + "y", 1, api.ErrIndent},
		{wide + ",|", 1, api.ErrForm},
		{"a|  " + wide + ",|b", 3, api.ErrIndent},
		{"a|  " + wide + "y,|  b", 2, api.ErrLong},
		{stairs(33) + strings.Repeat("  ", 33) + "a,|", 34, api.ErrForm},
		{stairs(33) + strings.Repeat("  ", 33) + "a,|  b", 35, api.ErrIndent},
		{many + "a,", 2049, api.ErrForm},
		{many + " a", 2049, api.ErrIndent},
		{many + "  a,|b", 2050, api.ErrIndent},
		{many + wide + "y", 2049, api.ErrLong},
		// in two of them
		{" a|b,", 1, api.ErrIndent},
		{"a,| b|   c", 3, api.ErrIndent},
		{"a|   b|  c,|", 2, api.ErrIndent},
		{"a|  b,| c|     d", 3, api.ErrIndent},
		{wide + "y| a", 1, api.ErrLong},
		{wide + "y|a,", 1, api.ErrLong},
		{"a| b|" + wide + "y", 2, api.ErrIndent},
		{wide + ",|c| b", 1, api.ErrLong},
		{stairs(34) + "a,", 34, api.ErrLong},
		{stairs(34) + " a", 34, api.ErrLong},
		{many + "a| b", 2049, api.ErrLong},
		{many + "a|b,", 2049, api.ErrLong},
		{wide + "y|" + many, 1, api.ErrLong},
		{"a| b|c\r", 3, api.ErrForm},
		{"a,|\x00", 2, api.ErrForm},
		{wide + "y|\x00|\x00", 2, api.ErrForm},
		{many + "a|\x7f", 2050, api.ErrForm},
	} {
		checkFault(t, written(x.src), x.line, x.e)
	}
}

// piece is a line that is not blank.
type piece struct {
	number, indent int
	content        string
}

// piecesOf are the lines of src that are not blank.
func piecesOf(src string) (l []piece) {
	for i, s := range strings.Split(src, "\n") {
		if k := strings.Index(s, "--"); k >= 0 {
			s = s[:k]
		}
		if m := contentForm.FindStringSubmatch(s); m[2] != "" {
			l = append(l, piece{i + 1, len(m[1]), m[2]})
		}
	}
	return l
}

// rowsByRules returns what the chapter says of src, which has no foreign bytes.
func rowsByRules(src string) (l []api.Row, line int, e api.Errno) {
	pieces := piecesOf(src)
	for len(pieces) > 0 {
		first := pieces[0]
		n := 1
		text := first.content
		for strings.IndexByte(continuing, text[len(text)-1]) >= 0 && n < len(pieces) {
			text += " " + pieces[n].content
			n++
		}
		before := -1
		if len(l) > 0 {
			before = l[len(l)-1].Depth
		}
		if first.indent%2 == 1 || first.indent/2 > before+1 {
			return nil, first.number, api.ErrIndent
		}
		for _, x := range pieces[1:n] {
			if x.indent < first.indent {
				return nil, x.number, api.ErrIndent
			}
		}
		if strings.IndexByte(continuing, text[len(text)-1]) >= 0 {
			return nil, pieces[n-1].number, api.ErrForm
		}
		if first.indent > 64 || len(text) > 256 || len(l) == 2048 {
			return nil, first.number, api.ErrLong
		}
		l = append(l, row(first.number, first.indent/2, text))
		pieces = pieces[n:]
	}
	return l, 0, api.OK
}

// mayByRules tells whether the chapter calls the rows l valid.
func mayByRules(l []api.Row) bool {
	sum := 0
	for i, x := range l {
		if x.No < 1 || x.No > 65536 || i > 0 && x.No <= l[i-1].No {
			return false
		}
		if x.Depth < 0 || x.Depth > 32 || i == 0 && x.Depth != 0 || i > 0 && x.Depth > l[i-1].Depth+1 {
			return false
		}
		if !textForm.MatchString(x.Text) || strings.Contains(x.Text, "--") || strings.ContainsAny(x.Text[len(x.Text)-1:], continuing) {
			return false
		}
		sum += 2*x.Depth + len(x.Text) + 1
	}
	return len(l) <= 2048 && sum <= 65537
}

// checkByRules compares Rows(src) with the chapter's rules, and its rows with the chapter's promises.
func checkByRules(t *testing.T, src string) (l []api.Row) {
	t.Helper()
	l, line, e := layout.Rows(src)
	want, at, fault := rowsByRules(src)
	if !slices.Equal(l, want) || line != at || e != fault {
		t.Fatalf("Rows(%q) = %v, %d, %d, want %v, %d, %d", src, l, line, e, want, at, fault)
	}
	if !mayByRules(l) || !layout.May(l) {
		t.Fatalf("Rows(%q) = %v, which are not valid", src, l)
	}
	text, e := layout.Source(l)
	if e != api.OK {
		t.Fatalf("Source(%v): %d", l, e)
	}
	var numbered []api.Row
	for i, x := range l {
		numbered = append(numbered, row(i+1, x.Depth, x.Text))
	}
	checkRows(t, text, numbered)
	return l
}

// TestAll has all short texts of few bytes.
func TestAll(t *testing.T) {
	letters := " \n-a,"
	for n := range 8 {
		src := make([]byte, n)
		var fill func(i int)
		fill = func(i int) {
			if i == n {
				checkByRules(t, string(src))
				return
			}
			for k := range len(letters) {
				src[i] = letters[k]
				fill(i + 1)
			}
		}
		fill(0)
	}
}

// randomSource returns a source text that mostly has no error; wrong is how many of 64 lines may have one.
func randomSource(pick func() uint32, lines, wrong int) string {
	chance := func(n, of int) bool { return int(pick()>>7)%of < n }
	words := []string{"SEQ", "x := 1", "c ! a, b", "y := x - 1", "a -b", "IF", "f(a; b)", "~", "[3]", "z := (p + q) * 2"}
	var b strings.Builder
	depth, open := 0, false
	for i := range lines {
		if chance(1, 6) {
			b.WriteString([]string{"\n", "  \n", "     -- c, d\n", "--\n", "---,\n"}[pick()>>8%5])
		}
		indent := 2 * (int(pick()>>8) % (depth + 2))
		if i == 0 {
			indent = 0
		}
		if open {
			indent = 2*depth + int(pick()>>8)%5
		} else {
			depth = indent / 2
		}
		if chance(wrong, 64) {
			indent += int(pick()>>8%7) - 3
		}
		b.WriteString(strings.Repeat(" ", max(0, indent)) + words[int(pick()>>8)%len(words)])
		open = chance(1, 4)
		if open && (i < lines-1 || chance(wrong, 64)) {
			b.WriteString([]string{" ", ""}[pick()>>8%2] + continuing[int(pick()>>8)%len(continuing):][:1])
		}
		b.WriteString([]string{"", "", " ", "  ", " -- d", "--,", " --- +"}[pick()>>8%7] + "\n")
	}
	return b.String()
}

// TestRandom compares the results on random texts with the chapter's rules.
func TestRandom(t *testing.T) {
	pick := random(7)
	right := 0
	for range 4000 {
		src := randomSource(pick, 1+int(pick()>>8)%30, int(pick()>>8)%8)
		if len(checkByRules(t, src)) > 0 {
			right++
		}
		checkByRules(t, strings.TrimSuffix(src, "\n"))
	}
	if right < 1000 || right > 3900 {
		t.Error(right)
	}
}

// TestInserted checks that blank lines change nothing but numbers.
func TestInserted(t *testing.T) {
	pick := random(8)
	for range 600 {
		src := randomSource(pick, 1+int(pick()>>8)%20, 1)
		l, line, e := layout.Rows(src)
		lines := strings.SplitAfter(src, "\n")
		at := int(pick()>>8) % len(lines)
		for _, blank := range []string{"\n", "   \n", "-- a\n", " ---,\n"} {
			inserted := strings.Join(slices.Insert(slices.Clone(lines), at, blank), "")
			later := func(number int) int {
				if number > at {
					return number + 1
				}
				return number
			}
			want := slices.Clone(l)
			for i := range want {
				want[i].No = later(want[i].No)
			}
			got, number, fault := layout.Rows(inserted)
			if !slices.Equal(got, want) || number != later(line) || fault != e {
				t.Fatalf("%q: %v, %d, %d, want %v", inserted, got, number, fault, want)
			}
		}
	}
}

// TestBroken checks that breaking a line at a space behind a byte that continues changes nothing but numbers.
func TestBroken(t *testing.T) {
	pick := random(9)
	broken := 0
	for range 600 {
		l := checkByRules(t, randomSource(pick, 1+int(pick()>>8)%20, 0))
		src, _ := layout.Source(l)
		for i := 1; i < len(src); i++ {
			if src[i] != ' ' || strings.IndexByte(continuing, src[i-1]) < 0 {
				continue
			}
			broken++
			number := strings.Count(src[:i], "\n") + 1
			got, line, e := layout.Rows(src[:i] + "\n" + strings.Repeat(" ", 2*l[number-1].Depth+int(pick()>>8)%3) + src[i+1:])
			for k, x := range l {
				x.No = k + 1
				if x.No > number {
					x.No++
				}
				if e != api.OK || line != 0 || len(got) != len(l) || got[k] != x {
					t.Fatalf("%q broken at %d: %v, %d", src, i, got, e)
				}
			}
		}
	}
	if broken < 1000 {
		t.Error(broken)
	}
}

// TestMay changes one part of rows that are valid.
func TestMay(t *testing.T) {
	checkMay(t, nil, true)
	checkMay(t, []api.Row{}, true)
	checkMay(t, []api.Row{{}}, false)
	base := []api.Row{row(3, 0, "SEQ"), row(5, 1, "SKIP"), row(9, 2, "a - b"), row(10, 0, "c")}
	checkMay(t, base, true)
	for i := range base {
		for _, number := range []int{math.MinInt, -1, 0, 1, 2, 3, 4, 5, 6, 8, 9, 10, 11, 65535, 65536, 65537, math.MaxInt} {
			l := slices.Clone(base)
			l[i].No = number
			checkMay(t, l, mayByRules(l))
		}
		for _, depth := range []int{math.MinInt, -2, -1, 0, 1, 2, 3, 4, 32, 33, math.MaxInt/2 + 1, math.MaxInt} {
			l := slices.Clone(base)
			l[i].Depth = depth
			checkMay(t, l, mayByRules(l))
		}
		for _, text := range []string{"", " ", "  ", "a ", " a", " a ", "a b", "a  b", "--", "a--b", "a --", "--a", "---", "a - -b", "-", "a -", "-a", "a,", "a+", ",a", "a\n", "a\nb", "\x1f", "a\x1fb", "\x7f", "~a", "a~", "a~b", "!", "a\u00e9", "\r", "a\tb", "\x00"} {
			l := slices.Clone(base)
			l[i].Text = text
			checkMay(t, l, mayByRules(l))
		}
	}
	for c := range 256 {
		for _, s := range []string{string([]byte{byte(c)}), string([]byte{'a', byte(c), 'b'}), string([]byte{'a', byte(c)}), string([]byte{byte(c), 'b'})} {
			l := []api.Row{row(1, 0, s)}
			checkMay(t, l, mayByRules(l))
		}
	}
	checkMay(t, []api.Row{row(65536, 0, "a")}, true)
	checkMay(t, []api.Row{row(65537, 0, "a")}, false)
	checkMay(t, []api.Row{row(0, 0, "a")}, false)
	checkMay(t, []api.Row{row(2, 0, "a"), row(2, 0, "a")}, false)
	checkMay(t, []api.Row{row(2, 0, "a"), row(1, 0, "a")}, false)
	checkMay(t, []api.Row{row(1, 1, "a")}, false)
	checkMay(t, []api.Row{row(1, 0, "a"), row(2, 2, "a")}, false)
	checkMay(t, []api.Row{row(1, 0, "a"), row(2, -1, "a")}, false)
}

// TestMayLimits has rows at the limits.
func TestMayLimits(t *testing.T) {
	var deep []api.Row
	for i := range 34 {
		deep = append(deep, row(i+1, i, "a"))
	}
	checkMay(t, deep[:33], true)
	checkMay(t, deep, false)
	var many []api.Row
	for i := range 70000 {
		many = append(many, row(i+1, 0, "a"))
	}
	checkMay(t, many[:2047], true)
	checkMay(t, many[:2048], true)
	checkMay(t, many[:2049], false)
	checkMay(t, many, false)
	for n, want := range map[int]bool{255: true, 256: true, 257: false, 1 << 20: false} {
		checkMay(t, []api.Row{row(1, 0, "b"), row(2, 1, strings.Repeat("a", n))}, want)
	}
}

// rowsOf returns rows, of which one is at depth 32, whose lengths have the sum n.
func rowsOf(n int) (l []api.Row) {
	for i := range 33 {
		l = append(l, row(i+1, i, "a"))
		n -= 2*i + 2
	}
	for n > 0 {
		k := min(n, 200)
		if n-k == 1 {
			k--
		}
		l = append(l, row(len(l)+1, 0, strings.Repeat("b", k-1)))
		n -= k
	}
	return l
}

// TestSum has rows whose lengths have a sum at the limit.
func TestSum(t *testing.T) {
	for n, want := range map[int]api.Errno{65000: api.OK, 65534: api.OK, 65535: api.OK, 65536: api.OK, 65537: api.ErrLong, 65538: api.ErrArg, 65539: api.ErrArg, 70000: api.ErrArg, 300000: api.ErrArg} {
		l := rowsOf(n)
		checkMay(t, l, n <= 65537)
		s, e := layout.Source(l)
		if e != want || e == api.OK && len(s) != n || e != api.OK && s != "" {
			t.Errorf("%d: %d bytes, %d, want %d", n, len(s), e, want)
		}
		if e == api.OK {
			checkRows(t, s, l)
		}
	}
	// A source text at the limit, without the line feed at its end, has rows whose source text is longer.
	s, _ := layout.Source(rowsOf(65536))
	l, _, e := layout.Rows(s[:65535] + "b")
	if e != api.OK || !layout.May(l) {
		t.Error(len(l), e)
	}
	if s, e := layout.Source(l); s != "" || e != api.ErrLong {
		t.Error(len(s), e)
	}
}

// TestNumbers checks that Source pays no heed to numbers.
func TestNumbers(t *testing.T) {
	for _, n := range []int{1, 2, 40, 65535} {
		s, e := layout.Source([]api.Row{row(n, 0, "PAR"), row(n+1, 1, "SKIP")})
		if s != "PAR\n  SKIP\n" || e != api.OK {
			t.Errorf("%d: %q, %d", n, s, e)
		}
	}
	if s, e := layout.Source(nil); s != "" || e != api.OK {
		t.Errorf("%q, %d", s, e)
	}
}

// TestRandomRows compares May and Source on random rows with the chapter's rules.
func TestRandomRows(t *testing.T) {
	pick := random(10)
	valid := 0
	for range 20000 {
		var l []api.Row
		number, depth := 0, -1
		for range pick() >> 8 % 6 {
			number += 1 + int(pick()>>8%3)
			depth = int(pick()>>8) % (depth + 2)
			x := row(number, depth, []string{"a", "b c", "d-e", "f - g", "SKIP"}[pick()>>8%5])
			switch pick() >> 8 % 40 {
			case 0:
				x.No -= int(pick() >> 8 % 4)
			case 1:
				x.Depth += int(pick()>>8%5) - 2
			case 2:
				x.Text += []string{" ", ",", "--", "-", "\n", "é", " a", "&"}[pick()>>8%8]
			case 3:
				x.Text = []string{" ", ",", "--", "-", "\n"}[pick()>>8%5] + x.Text
			}
			number, depth = x.No, max(0, x.Depth)
			l = append(l, x)
		}
		before := slices.Clone(l)
		checkMay(t, l, mayByRules(l))
		if !slices.Equal(l, before) {
			t.Fatal("the argument was changed")
		}
		if !mayByRules(l) {
			continue
		}
		valid++
		want := ""
		for i, x := range l {
			want += strings.Repeat("  ", x.Depth) + x.Text + "\n"
			before[i].No = i + 1
		}
		s, e := layout.Source(l)
		if s != want || e != api.OK {
			t.Fatalf("%v: %q, %d", l, s, e)
		}
		checkRows(t, s, before)
	}
	if valid < 5000 || valid > 19500 {
		t.Error(valid)
	}
}

// TestAgain checks that results do not depend on earlier calls, and share no memory.
func TestAgain(t *testing.T) {
	src := stairs(5)
	a, _, _ := layout.Rows(src)
	b, _, _ := layout.Rows(src)
	for i := range a {
		a[i] = row(-1, -1, strconv.Itoa(i))
	}
	if again, _, _ := layout.Rows(src); !slices.Equal(again, b) {
		t.Error(again, b)
	}
}
