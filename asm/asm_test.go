package asm_test

import (
	"bytes"
	"math"
	"regexp"
	"slices"
	"strconv"
	"strings"
	"testing"

	"transputer/api"
	"transputer/asm"
	"transputer/code"
	"transputer/instr"
)

const (
	most  int32 = math.MaxInt32
	least int32 = math.MinInt32
)

// functions are those that may have a target.
var functions = []uint8{0, 1, 3, 4, 5, 7, 8, 9, 10, 11, 12, 13, 14}

// labelForm and lineForm are what the chapter says of labels and of lines; that the number is a word is checked besides.
var (
	labelForm = regexp.MustCompile(`\A[A-Za-z][A-Za-z0-9.]{0,31}\z`)
	lineForm  = regexp.MustCompile(`\A(?:([A-Za-z][A-Za-z0-9.]{0,31}): )?(?:([a-z][a-z0-9]*)|([a-z]+) (?:(0|-?[1-9][0-9]*)|([A-Za-z][A-Za-z0-9.]{0,31})(?:-([A-Za-z][A-Za-z0-9.]{0,31}))?))\n\z`)
)

// random returns numbers in a fixed order without a pattern.
func random(seed uint32) func() uint32 {
	return func() uint32 {
		seed = seed*1664525 + 1013904223
		return seed>>9 ^ seed<<17
	}
}

func ldc(v int32) api.Line { return api.Line{Fn: api.FnLdc, Arg: v} }

func opr(v int32) api.Line { return api.Line{Fn: api.FnOpr, Arg: v} }

func to(target string) api.Line { return api.Line{Fn: api.FnJ, Target: target} }

func difference(target, from string) api.Line {
	return api.Line{Fn: api.FnLdc, Target: target, From: from}
}

func named(label string, x api.Line) api.Line {
	x.Label = label
	return x
}

// fill returns n lines of one byte each.
func fill(n int) []api.Line { return slices.Repeat([]api.Line{opr(api.OpRev)}, n) }

// chapterLines are those of the chapter's first examples.
func chapterLines() []api.Line {
	return []api.Line{named("a", to("b")), ldc(300), named("b", to("a"))}
}

// encoding is that of layer 4, in integers that do not wrap.
func encoding(fn uint8, v int64) []byte {
	last := byte(int64(fn)*16 + (v%16+16)%16)
	switch {
	case v < 0:
		return append(encoding(api.FnNfix, (-1-v)/16), last)
	case v >= 16:
		return append(encoding(api.FnPfix, v/16), last)
	}
	return []byte{last}
}

func isWellFormed(x api.Line) bool {
	label := func(s string) bool { return labelForm.MatchString(s) }
	if x.Label != "" && !label(x.Label) {
		return false
	}
	if x.Target == "" {
		return x.From == "" && instr.May(api.Instr{Fn: x.Fn, Arg: x.Arg})
	}
	return label(x.Target) && (x.From == "" || label(x.From)) && x.Arg == 0 && slices.Contains(functions, x.Fn)
}

// errorOf is the first error of lines that the chapter names, ErrLong aside.
func errorOf(l []api.Line) api.Errno {
	var labels []string
	for _, x := range l {
		if !isWellFormed(x) {
			return api.ErrArg
		}
		if x.Label != "" {
			labels = append(labels, x.Label)
		}
	}
	for i, s := range labels {
		if slices.Contains(labels[:i], s) {
			return api.ErrLabel
		}
	}
	for _, x := range l {
		for _, s := range []string{x.Target, x.From} {
			if s != "" && !slices.Contains(labels, s) {
				return api.ErrLabel
			}
		}
	}
	return api.OK
}

func sum(lengths []int) (n int) {
	for _, x := range lengths {
		n += x
	}
	return n
}

// addressesOf returns the address of each line.
func addressesOf(lengths []int) (at []int) {
	for i := range lengths {
		at = append(at, sum(lengths[:i]))
	}
	return at
}

// operandOf returns the operand of line i by the chapter's rules.
func operandOf(l []api.Line, at, lengths []int, i int) int {
	x := l[i]
	find := func(s string) int {
		return at[slices.IndexFunc(l, func(y api.Line) bool { return y.Label == s })]
	}
	switch {
	case x.Target == "":
		return int(x.Arg)
	case x.From == "":
		return find(x.Target) - (at[i] + lengths[i])
	}
	return find(x.Target) - find(x.From)
}

// needs returns how many bytes line i needs if the lines have some lengths.
func needs(l []api.Line, at, lengths []int, i int) int {
	return len(encoding(l[i].Fn, int64(operandOf(l, at, lengths, i))))
}

// lengthsOf is what the chapter puts in brackets: each length is 1 at first, and grows by 1 as long as it does not suffice.
func lengthsOf(l []api.Line) []int {
	lengths := slices.Repeat([]int{1}, len(l))
	for grown := true; grown; {
		grown = false
		at := addressesOf(lengths)
		for i := range l {
			if needs(l, at, lengths, i) > lengths[i] {
				lengths[i]++
				grown = true
				break
			}
		}
	}
	return lengths
}

func checkError(t *testing.T, l []api.Line, want api.Errno) {
	t.Helper()
	if n, e := asm.Lengths(l); e != want || len(n) != 0 {
		t.Errorf("Lengths: %d lengths, %d, want %d", len(n), e, want)
	}
	if b, at, e := asm.Assemble(l); e != want || len(b) != 0 || len(at) != 0 {
		t.Errorf("Assemble: %d bytes, %d addresses, %d, want %d", len(b), len(at), e, want)
	}
	if asm.May(l) != (want == api.ErrLong) {
		t.Errorf("May: %t", asm.May(l))
	}
}

// checkCode compares what Lengths and Assemble return with lengths that are known.
func checkCode(t *testing.T, l []api.Line, lengths []int) {
	t.Helper()
	if !asm.May(l) {
		t.Error("May")
	}
	if n, e := asm.Lengths(l); e != api.OK || !slices.Equal(n, lengths) {
		t.Fatalf("Lengths of %v: %v, %d, want %v", l, n, e, lengths)
	}
	var want []byte
	places := addressesOf(lengths)
	for i, x := range l {
		want = append(want, encoding(x.Fn, int64(operandOf(l, places, lengths, i)))...)
	}
	b, at, e := asm.Assemble(l)
	if e != api.OK || !bytes.Equal(b, want) || !slices.Equal(at, places) {
		t.Errorf("Assemble of %v: %x, %v, %d, want %x, %v", l, b, at, e, want, places)
	}
}

func checkText(t *testing.T, l []api.Line, want string) {
	t.Helper()
	if s, e := asm.Text(l); s != want || e != api.OK {
		t.Errorf("Text of %v: %q, %d, want %q", l, s, e, want)
	}
	if back, line, e := asm.Read(want); !slices.Equal(back, l) || line != 0 || e != api.OK {
		t.Errorf("Read(%q): %v, %d, %d, want %v", want, back, line, e, l)
	}
}

func checkRefused(t *testing.T, s string, want int) {
	t.Helper()
	if l, line, e := asm.Read(s); len(l) != 0 || line != want || e != api.ErrForm {
		t.Errorf("Read(%q): %v, %d, %d, want line %d", s, l, line, e, want)
	}
}

// TestExamples has the examples of the chapter.
func TestExamples(t *testing.T) {
	l := chapterLines()
	if n, e := asm.Lengths(l); !slices.Equal(n, []int{1, 3, 2}) || e != api.OK {
		t.Error(n, e)
	}
	b, at, e := asm.Assemble(l)
	if !bytes.Equal(b, []byte{0x03, 0x21, 0x22, 0x4C, 0x60, 0x0A}) || !slices.Equal(at, []int{0, 1, 4}) || e != api.OK {
		t.Errorf("%x, %v, %d", b, at, e)
	}
	checkError(t, []api.Line{to("x")}, api.ErrLabel)
	checkError(t, []api.Line{named("a", to("a")), named("a", opr(api.OpRet))}, api.ErrLabel)
	checkText(t, []api.Line{named("a", opr(5)), difference("a", "a")}, "a: add\nldc a-a\n")
	checkText(t, []api.Line{named("end", difference("end", "start"))}, "end: ldc end-start\n")
	checkRefused(t, "a: add", 1)
	checkRefused(t, "add\nldc  1\n", 2)
	checkError(t, []api.Line{{Fn: api.FnPfix}}, api.ErrArg)
	if s, e := asm.Text([]api.Line{{Fn: api.FnPfix}}); s != "" || e != api.ErrArg {
		t.Error(s, e)
	}
}

func TestFewLines(t *testing.T) {
	for _, l := range [][]api.Line{nil, {}} {
		checkCode(t, l, nil)
		checkText(t, l, "")
	}
	checkCode(t, []api.Line{ldc(0)}, []int{1})
	checkCode(t, []api.Line{opr(0x53)}, []int{2})
	checkCode(t, []api.Line{named("a", to("a"))}, []int{2})
	checkCode(t, []api.Line{named("a", difference("a", "a"))}, []int{1})
	checkText(t, []api.Line{ldc(0)}, "ldc 0\n")
}

// validLines returns lines of each kind.
func validLines() []api.Line {
	l := []api.Line{opr(api.OpRev), opr(api.OpTesthalterr)}
	for _, fn := range functions {
		l = append(l, api.Line{Fn: fn}, api.Line{Fn: fn, Arg: least}, api.Line{Fn: fn, Arg: most}, api.Line{Fn: fn, Arg: -1}, api.Line{Fn: fn, Target: "a"}, api.Line{Fn: fn, Target: "a", From: "a"})
	}
	return l
}

// notLabels returns strings that are neither empty nor labels.
func notLabels() []string {
	l := []string{"1", "1a", ".", ".a", "0", "-", "a-b", "a b", " a", "a ", "a:", ":a", "a: b", "a\n", "\na", "\x00", "a\x00", "a_b", "_a", "é", "aé", "a\xff", "\xff", "@", "[", "`", "{", "a@", "a[", "a`", "a{", "a/", "a:", "a,", "a#"}
	for _, n := range []int{33, 34, 64, 1000} {
		l = append(l, strings.Repeat("a", n))
	}
	return append(l, strings.Repeat("a", 31)+"é", "A"+strings.Repeat("9", 31)+".")
}

func labels() []string {
	return []string{"a", "z", "A", "Z", "a1", "a.", "a.b.c", "a0", "a9", "az", "aZ", "Aa", "aA", "ldc", "add", "opr", "j", "x..", "L.1.2", strings.Repeat("a", 31), strings.Repeat("a", 32), "A" + strings.Repeat("9", 30) + ".", "z" + strings.Repeat(".", 31)}
}

// TestLabels has strings that are labels, and strings that are none, in each of the three places.
func TestLabels(t *testing.T) {
	for _, s := range labels() {
		x := []api.Line{named(s, api.Line{Fn: api.FnLdc, Target: s, From: s}), {Fn: api.FnCj, Target: s}}
		checkCode(t, x, lengthsOf(x))
		checkText(t, x, s+": ldc "+s+"-"+s+"\ncj "+s+"\n")
	}
	for _, s := range notLabels() {
		for _, x := range []api.Line{named(s, ldc(1)), named(s, opr(5)), named(s, to("a")), to(s), difference(s, "a"), difference("a", s), difference(s, s)} {
			l := []api.Line{named("a", opr(api.OpRet)), x}
			if x.Label != "" {
				l = append(l, to(s)) // that it stands in front of a line does not make it a label
			}
			checkError(t, l, api.ErrArg)
			if text, e := asm.Text(l); text != "" || e != api.ErrArg {
				t.Errorf("%q, %d", text, e)
			}
		}
	}
	for c := range 256 {
		s := string([]byte{byte(c)})
		first := c >= 'A' && c <= 'Z' || c >= 'a' && c <= 'z'
		if asm.May([]api.Line{named(s, opr(0))}) != first {
			t.Errorf("%q", s)
		}
		later := first || c >= '0' && c <= '9' || c == '.'
		if asm.May([]api.Line{named("x"+s, opr(0))}) != later || asm.May([]api.Line{named("x"+s+"y", opr(0))}) != later {
			t.Errorf("%q", "x"+s)
		}
	}
}

// TestInstructions has every function, with and without a target, and the codes of operations.
func TestInstructions(t *testing.T) {
	ret := named("a", opr(api.OpRet))
	for fn := range 256 {
		for _, v := range []int32{0, 1, 5, 0x11, 0x20, 0x59, 0x5A, -1, least, most} {
			for _, x := range []api.Line{{Fn: uint8(fn), Arg: v}, {Fn: uint8(fn), Arg: v, Target: "a"}, {Fn: uint8(fn), Arg: v, Target: "a", From: "a"}, {Fn: uint8(fn), Arg: v, From: "a"}} {
				l := []api.Line{ret, x}
				want := isWellFormed(x)
				if asm.May(l) != want {
					t.Errorf("May of %v: %t", x, !want)
				}
				if _, e := asm.Text(l); (e == api.OK) != want {
					t.Errorf("Text of %v: %d", x, e)
				}
				if want {
					checkCode(t, l, lengthsOf(l))
				} else {
					checkError(t, l, api.ErrArg)
				}
			}
		}
	}
}

// TestNotLines has a line of each kind that is not valid, in front of, between and behind valid ones.
func TestNotLines(t *testing.T) {
	bad := []api.Line{
		{Fn: api.FnLdc, Arg: 1, Target: "a"},
		{Fn: api.FnLdc, Arg: -1, Target: "a", From: "a"},
		{Fn: api.FnLdc, From: "a"},
		{Fn: api.FnOpr, Arg: 5, From: "a"},
		{Fn: api.FnPfix},
		{Fn: api.FnNfix},
		{Fn: api.FnPfix, Target: "a"},
		{Fn: api.FnNfix, Target: "a", From: "a"},
		{Fn: api.FnOpr, Target: "a"},
		{Fn: api.FnOpr, Target: "a", From: "a"},
		{Fn: api.FnOpr, Arg: 5, Target: "a"},
		{Fn: api.FnOpr, Arg: 0x11},
		{Fn: api.FnOpr, Arg: -1},
		{Fn: 16},
		{Fn: 255},
		{Fn: 16, Target: "a"},
		{Fn: 0x10 | api.FnLdc, Arg: 1},
		{Label: "a.b c", Fn: api.FnLdc},
	}
	for i, x := range bad {
		good := append([]api.Line{named("a", opr(0))}, validLines()...)
		for at := range len(good) + 1 {
			l := slices.Insert(slices.Clone(good), at, x)
			checkError(t, l, api.ErrArg)
			if s, e := asm.Text(l); s != "" || e != api.ErrArg {
				t.Error(i, s, e)
			}
		}
	}
}

// TestMissingLabels has labels that stand in front of two lines, or of none.
func TestMissingLabels(t *testing.T) {
	a, b := named("a", opr(0)), named("b", opr(0))
	for i, l := range [][]api.Line{
		{a, a},
		{a, b, a},
		{b, a, b},
		{a, named("a", to("a"))},
		{to("a")},
		{b, to("a")},
		{a, difference("a", "b")},
		{b, difference("a", "b")},
		{difference("a", "a")},
		{to("A"), a},
		{a, to("a.")},
		{a, to("aa")},
		{named("aa", opr(0)), to("a")},
	} {
		checkError(t, l, api.ErrLabel)
		want, e := asm.Text(l)
		if e != api.OK {
			t.Error(i, e)
		}
		checkText(t, l, want) // labels are not compared
	}
	checkCode(t, []api.Line{to("a"), a, to("b"), b}, []int{1, 1, 1, 1})
	checkCode(t, []api.Line{opr(0), opr(0), opr(0), a}, []int{1, 1, 1, 1}) // the empty label is none
}

// TestOrder has lines with several errors at once.
func TestOrder(t *testing.T) {
	long := fill(api.MaxCode + 1)
	unknown, twice := []api.Line{to("x")}, []api.Line{named("a", opr(0)), named("a", opr(0))}
	bad := []api.Line{{Fn: api.FnPfix}}
	for _, x := range []struct {
		l    [][]api.Line
		want api.Errno
	}{
		{[][]api.Line{bad, unknown}, api.ErrArg},
		{[][]api.Line{unknown, bad}, api.ErrArg},
		{[][]api.Line{twice, bad}, api.ErrArg},
		{[][]api.Line{bad, twice}, api.ErrArg},
		{[][]api.Line{twice, unknown}, api.ErrLabel},
		{[][]api.Line{long, bad}, api.ErrArg},
		{[][]api.Line{bad, long}, api.ErrArg},
		{[][]api.Line{long, unknown}, api.ErrLabel},
		{[][]api.Line{unknown, long}, api.ErrLabel},
		{[][]api.Line{long, twice}, api.ErrLabel},
		{[][]api.Line{twice, long, unknown, bad}, api.ErrArg},
		{[][]api.Line{long}, api.ErrLong},
	} {
		checkError(t, slices.Concat(x.l...), x.want)
	}
}

// TestBorders has the operands at which an encoding grows.
func TestBorders(t *testing.T) {
	for _, x := range []struct {
		v int32
		n int
	}{{0, 1}, {15, 1}, {16, 2}, {255, 2}, {256, 3}, {4095, 3}, {4096, 4}, {65535, 4}, {65536, 5}, {1<<28 - 1, 7}, {1 << 28, 8}, {most, 8}, {-1, 2}, {-16, 2}, {-17, 2}, {-256, 2}, {-257, 3}, {-4096, 3}, {-4097, 4}, {-65536, 4}, {-65537, 5}, {-1 << 28, 7}, {-1<<28 - 1, 8}, {least, 8}} {
		l := []api.Line{ldc(x.v)}
		checkCode(t, l, []int{x.n})
		checkText(t, l, "ldc "+strconv.Itoa(int(x.v))+"\n")
	}
}

// TestJumpBorders has jumps over n bytes, forwards and backwards, and differences of n bytes.
func TestJumpBorders(t *testing.T) {
	for _, n := range []int{0, 1, 12, 13, 14, 15, 16, 17, 250, 252, 253, 254, 255, 256, 257, 4090, 4092, 4093, 4094, 4095, 4096, 4097} {
		size := func(v int) int { return len(encoding(0, int64(v))) }
		ahead := slices.Concat([]api.Line{to("a")}, fill(n), []api.Line{named("a", opr(0))})
		back := slices.Concat([]api.Line{named("a", opr(0))}, fill(n), []api.Line{to("a")})
		forward := slices.Concat([]api.Line{named("a", opr(0))}, fill(n), []api.Line{named("b", difference("b", "a"))})
		backward := slices.Concat([]api.Line{named("a", opr(0))}, fill(n), []api.Line{named("b", difference("a", "b"))})
		own := 1
		for size(-(n + 1 + own)) > own {
			own++
		}
		for i, x := range []struct {
			l        []api.Line
			at, want int
		}{{ahead, 0, size(n)}, {back, n + 1, own}, {forward, n + 1, size(n + 1)}, {backward, n + 1, size(-n - 1)}} {
			lengths, e := asm.Lengths(x.l)
			if e != api.OK || lengths[x.at] != x.want || sum(lengths) != n+1+x.want {
				t.Errorf("%d, %d: %d bytes, %d in all, %d, want %d", n, i, lengths[x.at], sum(lengths), e, x.want)
			}
		}
		if n < 300 {
			for _, l := range [][]api.Line{ahead, back, forward, backward} {
				checkCode(t, l, lengthsOf(l))
			}
		}
	}
}

// TestSelf has lines whose own length is in their operand.
func TestSelf(t *testing.T) {
	// Behind 254 bytes a jump back has two bytes; behind 255 its own two make it need a third.
	for n := 248; n < 258; n++ {
		l := slices.Concat([]api.Line{named("a", opr(0))}, fill(n-1), []api.Line{to("a")})
		want := 2
		if n > 254 {
			want = 3
		}
		if lengths, e := asm.Lengths(l); e != api.OK || lengths[n] != want {
			t.Error(n, lengths[n], e)
		}
	}
	// A difference that spans the line itself.
	for n := range 30 {
		l := slices.Concat([]api.Line{named("a", difference("b", "a"))}, fill(n), []api.Line{named("b", opr(0))})
		checkCode(t, l, lengthsOf(l))
		l[0] = named("a", difference("a", "b"))
		checkCode(t, l, lengthsOf(l))
	}
}

// randomLines returns lines that can be assembled: many of their operands are near the borders of lengths.
func randomLines(pick func() uint32, n int) (l []api.Line) {
	for i := range n {
		x := api.Line{Label: "l" + strconv.Itoa(i), Fn: functions[int(pick()>>3)%len(functions)]}
		target, from := "l"+strconv.Itoa(int(pick()>>4)%n), "l"+strconv.Itoa(int(pick()>>4)%n)
		switch pick() >> 5 % 8 {
		case 0:
			x.Arg = int32(pick()) >> (pick() >> 4 % 32)
		case 1:
			x = named(x.Label, opr(int32(pick()>>4%16)))
		case 2, 3, 4:
			x.Target = target
		default:
			x.Target, x.From = target, from
		}
		l = append(l, x)
	}
	return l
}

// TestRandom compares the results on random lines with the chapter's rules.
func TestRandom(t *testing.T) {
	pick := random(6)
	for range 3000 {
		l := randomLines(pick, 1+int(pick()>>4)%24)
		checkCode(t, l, lengthsOf(l))
	}
	for range 20 {
		l := randomLines(pick, 150+int(pick()>>4)%60)
		checkCode(t, l, lengthsOf(l))
	}
}

// TestLeast has, for few lines, all lengths that are sufficient.
func TestLeast(t *testing.T) {
	pick := random(7)
	for range 300 {
		l := randomLines(pick, 4)
		for i := range l { // only operands that labels stand for, and of at most 4 bytes
			if l[i].Target == "" {
				l[i].Arg %= 16
			}
		}
		wide := slices.Concat(l[:2], fill(12), l[2:])
		least, e := asm.Lengths(wide)
		if e != api.OK {
			t.Fatal(e)
		}
		found := false
		for k := range 256 {
			lengths := slices.Repeat([]int{1}, len(wide))
			lengths[0], lengths[1], lengths[14], lengths[15] = 1+k%4, 1+k/4%4, 1+k/16%4, 1+k/64
			if !isSufficient(wide, lengths) {
				continue
			}
			found = found || slices.Equal(lengths, least)
			for i := range lengths {
				if lengths[i] < least[i] {
					t.Fatalf("%v: %v suffices, %v was returned", wide, lengths, least)
				}
			}
		}
		if !found {
			t.Errorf("%v: %v does not suffice", wide, least)
		}
	}
}

func isSufficient(l []api.Line, lengths []int) bool {
	at := addressesOf(lengths)
	for i := range l {
		if needs(l, at, lengths, i) > lengths[i] {
			return false
		}
	}
	return true
}

// TestPromises checks the consequences that the chapter promises, on random lines.
func TestPromises(t *testing.T) {
	pick := random(8)
	for range 500 {
		l := randomLines(pick, 1+int(pick()>>4)%60)
		lengths, _ := asm.Lengths(l)
		b, at, e := asm.Assemble(l)
		instrs, failed := code.All(b)
		if e != api.OK || failed != api.OK || len(instrs) != len(l) || len(b) != sum(lengths) {
			t.Fatal(l, e, failed)
		}
		numbers, others := slices.Clone(l), slices.Clone(l)
		for i, x := range l {
			operand := operandOf(l, at, lengths, i)
			if instrs[i] != (api.Instr{Fn: x.Fn, Arg: int32(operand)}) || code.Len(instrs[i]) != lengths[i] {
				t.Error(i, x, instrs[i], lengths[i])
			}
			if x.Target != "" && x.From == "" {
				target := slices.IndexFunc(l, func(y api.Line) bool { return y.Label == x.Target })
				if at[i]+lengths[i]+int(instrs[i].Arg) != at[target] {
					t.Error(i, x, instrs[i])
				}
			}
			numbers[i] = api.Line{Label: x.Label, Fn: x.Fn, Arg: int32(operand)}
			others[i].Label, others[i].Target, others[i].From = renamed(x.Label), renamed(x.Target), renamed(x.From)
		}
		for _, m := range [][]api.Line{numbers, others} {
			again, where, e := asm.Assemble(m)
			if !bytes.Equal(again, b) || !slices.Equal(where, at) || e != api.OK {
				t.Errorf("%v: %x, want %x", m, again, b)
			}
		}
		text, e := asm.Text(l)
		if e != api.OK {
			t.Error(e)
		}
		checkText(t, l, text)
	}
}

// renamed returns another label for each label, in another order.
func renamed(s string) string {
	if s == "" {
		return s
	}
	n, _ := strconv.Atoi(s[1:])
	return "Z." + strconv.Itoa(1000-n)
}

// chain returns n lines, and a last one. The length of each of the n depends on the 8 before it, or on the 8 after it: it grows when the last one of these has grown.
func chain(n int, forwards bool) (l []api.Line) {
	label := func(i int) string { return "l" + strconv.Itoa(i) }
	for i := range n {
		x := ldc(16)
		switch {
		case forwards && i >= 8:
			x = difference(label(i), label(i-8))
		case !forwards && i <= n-9:
			x = difference(label(i+9), label(i+1))
		}
		l = append(l, named(label(i), x))
	}
	return append(l, named(label(n), opr(0)))
}

// TestChains has lines whose lengths grow in turn.
func TestChains(t *testing.T) {
	for _, forwards := range []bool{true, false} {
		for _, n := range []int{1, 8, 9, 40, 100} {
			l := chain(n, forwards)
			checkCode(t, l, lengthsOf(l))
			checkCode(t, l, append(slices.Repeat([]int{2}, n), 1))
		}
		n := 16383
		lengths, e := asm.Lengths(chain(n, forwards))
		if e != api.OK || !slices.Equal(lengths, append(slices.Repeat([]int{2}, n), 1)) {
			t.Error(len(lengths), e)
		}
		checkError(t, chain(n+1, forwards), api.ErrLong)
	}
	// Jumps over jumps that are 15 bytes away as long as nothing grows, but for the last one.
	for n := 1; n < 120; n += 7 {
		var ahead, back []api.Line
		for i := range n {
			ahead = append(ahead, named("l"+strconv.Itoa(i), to("l"+strconv.Itoa(i+16))))
		}
		back = slices.Clone(ahead)
		slices.Reverse(back)
		for i := n; i < n+17; i++ {
			ahead = append(ahead, named("l"+strconv.Itoa(i), opr(0)))
			back = slices.Insert(back, 0, named("l"+strconv.Itoa(i), opr(0)))
		}
		for _, l := range [][]api.Line{ahead, back} {
			checkCode(t, l, lengthsOf(l))
			l = slices.Insert(slices.Clone(l), len(l)/2, ldc(300))
			checkCode(t, l, lengthsOf(l))
		}
	}
}

// TestLong has lengths with sums at the limit.
func TestLong(t *testing.T) {
	eight := slices.Repeat([]api.Line{ldc(least)}, api.MaxCode/8)
	jump := func(n int) []api.Line { // the jump has 4 bytes
		return slices.Concat([]api.Line{to("end")}, fill(n), []api.Line{named("end", opr(0))})
	}
	for i, x := range []struct {
		l    []api.Line
		want int // 0: too long
	}{
		{fill(32767), 32767},
		{fill(32768), 32768},
		{fill(32769), 0},
		{fill(65536), 0},
		{fill(70000), 0},
		{eight, 32768},
		{append(slices.Clone(eight), opr(0)), 0},
		{append(fill(32766), ldc(16)), 32768},
		{append(fill(32767), ldc(16)), 0},
		{append(fill(32767), ldc(15)), 32768},
		{jump(32762), 32767},
		{jump(32763), 32768},
		{jump(32764), 0},
		{jump(32765), 0},
		{jump(32766), 0},
	} {
		lengths, e := asm.Lengths(x.l)
		b, at, failed := asm.Assemble(x.l)
		if x.want == 0 {
			checkError(t, x.l, api.ErrLong)
			continue
		}
		if e != api.OK || failed != api.OK || sum(lengths) != x.want || len(b) != x.want || len(at) != len(x.l) {
			t.Errorf("%d: %d, %d, %d, %d, want %d", i, sum(lengths), len(b), e, failed, x.want)
		}
	}
	text, e := asm.Text(fill(70000)) // texts are not limited
	if e != api.OK || len(text) != 4*70000 {
		t.Error(len(text), e)
	}
	if l, line, e := asm.Read(text); len(l) != 70000 || line != 0 || e != api.OK {
		t.Error(len(l), line, e)
	}
}

// textOf returns the text of a valid line by the chapter's rules.
func textOf(x api.Line) string {
	name, _ := instr.Name(api.Instr{Fn: x.Fn, Arg: x.Arg})
	s := name
	if x.Label != "" {
		s = x.Label + ": " + name
	}
	switch {
	case x.Fn == api.FnOpr:
	case x.Target == "":
		s += " " + strconv.Itoa(int(x.Arg))
	case x.From == "":
		s += " " + x.Target
	default:
		s += " " + x.Target + "-" + x.From
	}
	return s + "\n"
}

// lineOf returns the line whose text s is, by the chapter's rules.
func lineOf(s string) (api.Line, bool) {
	m := lineForm.FindStringSubmatch(s)
	if m == nil {
		return api.Line{}, false
	}
	y, ok := instr.Named(m[2] + m[3]) // only one of them is not empty
	if !ok || (y.Fn == api.FnOpr) != (m[2] != "") {
		return api.Line{}, false
	}
	x := api.Line{Label: m[1], Fn: y.Fn, Arg: y.Arg, Target: m[5], From: m[6]}
	if m[4] != "" {
		v, err := strconv.ParseInt(m[4], 10, 32)
		if err != nil {
			return api.Line{}, false
		}
		x.Arg = int32(v)
	}
	return x, true
}

// linesOf is Read by the chapter's rules.
func linesOf(s string) (l []api.Line, line int, e api.Errno) {
	for _, text := range strings.SplitAfter(s, "\n") {
		if text == "" { // what is behind the last line feed
			continue
		}
		line++
		x, ok := lineOf(text)
		if !ok {
			return nil, line, api.ErrForm
		}
		l = append(l, x)
	}
	return l, 0, api.OK
}

func checkRead(t *testing.T, s string) {
	t.Helper()
	want, number, wanted := linesOf(s)
	l, line, e := asm.Read(s)
	if !slices.Equal(l, want) || line != number || e != wanted {
		t.Errorf("Read(%q): %v, %d, %d, want %v, %d, %d", s, l, line, e, want, number, wanted)
	}
	if e != api.OK {
		return
	}
	if text, e := asm.Text(l); text != s || e != api.OK {
		t.Errorf("Text of %v: %q, %d, want %q", l, text, e, s)
	}
}

// TestText has the text of every instruction, with each kind of operand and label.
func TestText(t *testing.T) {
	checkText(t, []api.Line{ldc(-5), ldc(least), ldc(most), ldc(0), {Fn: api.FnJ}, to("b"), named("b", to("b"))}, "ldc -5\nldc -2147483648\nldc 2147483647\nldc 0\nj 0\nj b\nb: j b\n")
	var all []api.Line
	var text string
	for _, x := range validLines() {
		for _, label := range []string{"", "a", "add", strings.Repeat("x", 32)} {
			l := named(label, x)
			checkText(t, []api.Line{l}, textOf(l))
			all, text = append(all, l), text+textOf(l)
		}
	}
	for v := range int32(0x60) {
		if x := opr(v); isWellFormed(x) {
			checkText(t, []api.Line{x, named("a", x)}, textOf(x)+"a: "+textOf(x))
		}
	}
	checkText(t, all, text)
}

// TestNoText has texts that are not those of lines, and the number of the first line in error.
func TestNoText(t *testing.T) {
	for _, s := range []string{
		"a: add", "add", "ldc 1", "ldc a", "\n", " \n", "add \n", " add\n", "add\r\n", "\tadd\n", "Add\n", "ADD\n",
		"ldc\n", "ldc \n", "ldc  1\n", "ldc 1 \n", "ldc 1 2\n", "ldc 01\n", "ldc 00\n", "ldc -0\n", "ldc -01\n", "ldc +1\n", "ldc --1\n", "ldc - 1\n", "ldc -\n", "ldc 1-\n", "ldc 1-a\n", "ldc 1a\n", "ldc 1.0\n", "ldc 1e3\n", "ldc 0x10\n", "ldc 1_000\n",
		"ldc #00000001\n", "ldc #1\n", "ldc #FFFFFFFF\n", "ldc #\n",
		"ldc 2147483648\n", "ldc -2147483649\n", "ldc 4294967295\n", "ldc 4294967296\n", "ldc 4294967301\n", "ldc 99999999999999999999999999\n", "ldc -99999999999999999999999999\n",
		"add 5\n", "add 0\n", "add a\n", "add a-b\n", "add -\n", "opr 5\n", "opr a\n", "opr\n", "pfix 1\n", "pfix a\n", "nfix 1\n", "nfix a-b\n", "foo\n", "foo 1\n", "foo a\n", "foo a-b\n", " 1\n", " a\n", "- a\n",
		"a add\n", "a ldc 1\n", "a:add\n", "a:ldc 1\n", "a : add\n", "a:  add\n", "a:\tadd\n", "a:\n", "a: \n", "a\n", "a add\n", ": add\n", ":add\n", " a: add\n", "a: : add\n", "a: b: add\n", "a:: add\n", "a: add:\n", "a: add: \n", "add: \n", "ldc: 1\n", "ldc: a\n", "1: add\n", ".a: add\n", "a-b: add\n", "a_b: add\n", "é: add\n", "ldc 1: add\n", "a, add\n", "a;add\n",
		"ldc a-\n", "ldc -a\n", "ldc a--b\n", "ldc a-b-c\n", "ldc a-1\n", "ldc a - b\n", "ldc a- b\n", "ldc a -b\n", "ldc a+b\n", "ldc a-b \n", "ldc a:\n", "ldc a b\n", "ldc .a\n", "ldc a-.b\n", "ldc a_b\n", "ldc é\n", "ldc a-é\n", "ldc a:b\n", "ldc a: b\n",
		"ldc " + strings.Repeat("a", 33) + "\n", "ldc a-" + strings.Repeat("a", 33) + "\n", strings.Repeat("a", 33) + ": add\n",
		"add\x00\n", "\x00\n", "add\xff\n", "\xef\xbb\xbfadd\n", "ａｄｄ\n", "ldc １\n", "ldc a\u00a0\n", "add\v\n", "add\u2028\n",
	} {
		checkRead(t, s)
		checkRefused(t, s, 1)
		checkRefused(t, "ret\na: ldc 1\n"+s, 3)
		if strings.HasSuffix(s, "\n") {
			checkRefused(t, s+"ret\n", 1)
			checkRefused(t, "ret\n"+s+"foo\nret\n"+s, 2)
		} else {
			checkText(t, func() []api.Line { x, _ := lineOf(s + "\n"); return []api.Line{x} }(), s+"\n")
		}
	}
	checkRefused(t, "ret\n\nret\n", 2)
	checkRefused(t, "ret\nret\n\n", 3)
	checkRefused(t, "ret\nret", 2)
	checkRefused(t, "ret\nret\n ", 3)
	checkRefused(t, "foo\nret", 1)
	checkRefused(t, strings.Repeat("ret\n", 1000)+"x", 1001)
	checkRefused(t, strings.Repeat("\n", 1000), 1)
	checkRefused(t, strings.Repeat("ldc "+strings.Repeat("9", 100000)+"\n", 3), 1)
}

// TestShortTexts has every text of up to five of the bytes that matter, in front of the line feed.
func TestShortTexts(t *testing.T) {
	alphabet := []byte("aj1-0: .\n#")
	var extend func(s []byte, n int)
	extend = func(s []byte, n int) {
		checkRead(t, string(s)+"\n")
		checkRead(t, "j "+string(s)+"\n")
		checkRead(t, "j 1"+string(s))
		if n == 0 {
			return
		}
		for _, c := range alphabet {
			extend(append(s[:len(s):len(s)], c), n-1)
		}
	}
	extend(nil, 4)
}

// TestChangedTexts changes bytes of texts of lines.
func TestChangedTexts(t *testing.T) {
	pick := random(9)
	bytesIn := []byte("abdjlcrst019-+#.:_ \n\t\x00\xffA")
	for range 60000 {
		l := randomLines(pick, 1+int(pick()>>4)%4)
		for i := range l {
			if pick()>>5%2 == 0 {
				l[i].Label = ""
			}
		}
		s, e := asm.Text(l)
		if e != api.OK {
			t.Fatal(e)
		}
		b := []byte(s)
		for range pick() >> 5 % 3 {
			at := int(pick()>>4) % len(b)
			c := bytesIn[int(pick()>>4)%len(bytesIn)]
			switch pick() >> 6 % 4 {
			case 0:
				b = slices.Delete(b, at, at+1)
			case 1:
				b = slices.Insert(b, at, c)
			case 2:
				b[at] = c
			default:
				b = slices.Insert(b, at, b[at])
			}
			if len(b) == 0 {
				break
			}
		}
		checkRead(t, string(b))
	}
}

// TestValidityOfText has lines of which some are not valid, whatever their labels.
func TestValidityOfText(t *testing.T) {
	for _, l := range [][]api.Line{
		{{Fn: api.FnNfix}},
		{ldc(1), {Fn: api.FnLdc, From: "a"}},
		{to("x"), {Fn: 200}},
		{named("a b", ldc(1)), ldc(2)},
		append(fill(40000), api.Line{Fn: api.FnPfix}),
	} {
		if s, e := asm.Text(l); s != "" || e != api.ErrArg {
			t.Errorf("%q, %d", s, e)
		}
	}
}

// TestMemory checks that arguments are kept as they were, and that results share no memory.
func TestMemory(t *testing.T) {
	backing := append(chapterLines(), named("c", ldc(7)), named("d", ldc(8)))
	before := slices.Clone(backing)
	l := backing[:3]
	lengths, _ := asm.Lengths(l)
	b, at, _ := asm.Assemble(l)
	text, _ := asm.Text(l)
	asm.May(l)
	for i := range lengths {
		lengths[i], at[i] = 99, 99
	}
	for i := range b {
		b[i] = 0xEE
	}
	_ = append(lengths, 1, 2, 3)
	_ = append(at, 1, 2, 3)
	_ = append(b, 1, 2, 3)
	read, _, _ := asm.Read(text)
	other, _, _ := asm.Read(text)
	read[0] = api.Line{}
	if !slices.Equal(backing, before) || !slices.Equal(other, before[:3]) {
		t.Error(backing, other)
	}
	checkCode(t, l, []int{1, 3, 2})
	lengths, _ = asm.Lengths(l)
	_, at, _ = asm.Assemble(l)
	l[1].Arg, l[0].Target = 0, "a"
	if !slices.Equal(lengths, []int{1, 3, 2}) || !slices.Equal(at, []int{0, 1, 4}) {
		t.Error(lengths, at)
	}
}
