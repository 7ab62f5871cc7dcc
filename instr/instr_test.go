package instr_test

import (
	"math"
	"slices"
	"strconv"
	"strings"
	"testing"

	"transputer/api"
	"transputer/instr"
)

const (
	most  int32 = math.MaxInt32
	least int32 = math.MinInt32
)

// entry is an instruction of the chapter's tables; a function has the operand 0.
type entry struct {
	fn            uint8
	arg           int32
	name          string
	takes, leaves int
}

// functions is the chapter's first table, with the numbers of api written out.
var functions = []entry{
	{0, 0, "j", 0, 0},
	{1, 0, "ldlp", 0, 1},
	{3, 0, "ldnl", 1, 1},
	{4, 0, "ldc", 0, 1},
	{5, 0, "ldnlp", 1, 1},
	{7, 0, "ldl", 0, 1},
	{8, 0, "adc", 1, 1},
	{9, 0, "call", 3, 1},
	{10, 0, "cj", 1, 0},
	{11, 0, "ajw", 0, 0},
	{12, 0, "eqc", 1, 1},
	{13, 0, "stl", 1, 0},
	{14, 0, "stnl", 2, 0},
}

// operations is the chapter's second table.
var operations = []entry{
	{15, 0x00, "rev", 2, 2},
	{15, 0x01, "lb", 1, 1},
	{15, 0x02, "bsub", 2, 1},
	{15, 0x03, "endp", 1, 0},
	{15, 0x04, "diff", 2, 1},
	{15, 0x05, "add", 2, 1},
	{15, 0x06, "gcall", 1, 1},
	{15, 0x07, "in", 3, 0},
	{15, 0x08, "prod", 2, 1},
	{15, 0x09, "gt", 2, 1},
	{15, 0x0A, "wsub", 2, 1},
	{15, 0x0B, "out", 3, 0},
	{15, 0x0C, "sub", 2, 1},
	{15, 0x0D, "startp", 2, 0},
	{15, 0x0E, "outbyte", 2, 0},
	{15, 0x0F, "outword", 2, 0},
	{15, 0x10, "seterr", 0, 0},
	{15, 0x12, "resetch", 1, 1},
	{15, 0x13, "csub0", 2, 1},
	{15, 0x15, "stopp", 0, 0},
	{15, 0x16, "ladd", 3, 1},
	{15, 0x19, "norm", 2, 3},
	{15, 0x1A, "ldiv", 3, 2},
	{15, 0x1B, "ldpi", 1, 1},
	{15, 0x1D, "xdble", 1, 2},
	{15, 0x1E, "ldpri", 0, 1},
	{15, 0x1F, "rem", 2, 1},
	{15, 0x20, "ret", 0, 0},
	{15, 0x21, "lend", 2, 0},
	{15, 0x22, "ldtimer", 0, 1},
	{15, 0x29, "testerr", 0, 1},
	{15, 0x2B, "tin", 1, 0},
	{15, 0x2C, "div", 2, 1},
	{15, 0x2E, "dist", 3, 1},
	{15, 0x2F, "disc", 3, 1},
	{15, 0x30, "diss", 2, 1},
	{15, 0x31, "lmul", 3, 2},
	{15, 0x32, "not", 1, 1},
	{15, 0x33, "xor", 2, 1},
	{15, 0x34, "bcnt", 1, 1},
	{15, 0x35, "lshr", 3, 2},
	{15, 0x36, "lshl", 3, 2},
	{15, 0x37, "lsum", 3, 2},
	{15, 0x38, "lsub", 3, 1},
	{15, 0x39, "runp", 1, 0},
	{15, 0x3A, "xword", 2, 1},
	{15, 0x3B, "sb", 2, 0},
	{15, 0x3C, "gajw", 1, 1},
	{15, 0x3F, "wcnt", 1, 2},
	{15, 0x40, "shr", 2, 1},
	{15, 0x41, "shl", 2, 1},
	{15, 0x42, "mint", 0, 1},
	{15, 0x43, "alt", 0, 0},
	{15, 0x44, "altwt", 0, 0},
	{15, 0x45, "altend", 0, 0},
	{15, 0x46, "and", 2, 1},
	{15, 0x47, "enbt", 2, 1},
	{15, 0x48, "enbc", 2, 1},
	{15, 0x49, "enbs", 1, 1},
	{15, 0x4A, "move", 3, 0},
	{15, 0x4B, "or", 2, 1},
	{15, 0x4C, "csngl", 2, 1},
	{15, 0x4D, "ccnt1", 2, 1},
	{15, 0x4E, "talt", 0, 0},
	{15, 0x4F, "ldiff", 3, 2},
	{15, 0x51, "taltwt", 0, 0},
	{15, 0x52, "sum", 2, 1},
	{15, 0x53, "mul", 2, 1},
	{15, 0x54, "sttimer", 1, 0},
	{15, 0x55, "stoperr", 0, 0},
	{15, 0x56, "cword", 2, 1},
	{15, 0x57, "clrhalterr", 0, 0},
	{15, 0x58, "sethalterr", 0, 0},
	{15, 0x59, "testhalterr", 0, 1},
}

func entries() []entry { return slices.Concat(functions, operations) }

func (r entry) instr() api.Instr { return api.Instr{Fn: r.fn, Arg: r.arg} }

// entryOf returns the entry of x by the chapter's rules.
func entryOf(x api.Instr) (entry, bool) {
	for _, r := range entries() {
		if r.fn == x.Fn && (r.fn != 15 || r.arg == x.Arg) {
			return r, true
		}
	}
	return entry{}, false
}

func entryNamed(name string) (entry, bool) {
	i := slices.IndexFunc(entries(), func(r entry) bool { return r.name == name })
	if i < 0 {
		return entry{}, false
	}
	return entries()[i], true
}

// operands returns words at the ends of ranges, codes of operations, and words that differ from codes in high bits.
func operands() []int32 {
	l := []int32{least, least + 1, least + 5, most, most - 1, 1000000000, 999999999, -1000000000, -999999999, 0x12345678}
	for v := int32(-300); v <= 300; v++ {
		l = append(l, v)
	}
	for places := 9; places < 31; places++ {
		for d := int32(-1); d <= 1; d++ {
			l = append(l, 1<<places+d, -1<<places+d)
		}
		l = append(l, 1<<places+5, -1<<places+5)
	}
	return l
}

// random returns numbers in a fixed order without a pattern.
func random(seed uint32) func() uint32 {
	return func() uint32 {
		seed = seed*1664525 + 1013904223
		return seed>>9 ^ seed<<17
	}
}

// decimal is the canonical text of a word.
func decimal(v int32) string { return strconv.FormatInt(int64(v), 10) }

// hexadecimal is its other text.
func hexadecimal(v int32) string {
	s := strings.ToUpper(strconv.FormatInt(int64(uint32(v)), 16))
	return "#" + strings.Repeat("0", 8-len(s)) + s
}

// wordOf returns the word that s is a text of.
func wordOf(s string) (int32, bool) {
	v, err := strconv.ParseInt(s, 10, 32)
	if strings.HasPrefix(s, "#") {
		var u uint64
		u, err = strconv.ParseUint(s[1:], 16, 32)
		v = int64(int32(u))
	}
	return int32(v), err == nil && (decimal(int32(v)) == s || hexadecimal(int32(v)) == s)
}

// textOf is Text by the chapter's rules.
func textOf(x api.Instr) (string, api.Errno) {
	r, ok := entryOf(x)
	switch {
	case !ok:
		return "", api.ErrArg
	case r.fn != 15:
		return r.name + " " + decimal(x.Arg), api.OK
	}
	return r.name, api.OK
}

// instrOf is Read by the chapter's rules.
func instrOf(s string) (api.Instr, api.Errno) {
	at := strings.IndexByte(s, ' ')
	name := s
	if at >= 0 {
		name = s[:at]
	}
	r, ok := entryNamed(name)
	switch {
	case !ok:
		return api.Instr{}, api.ErrName
	case r.fn == 15 && at >= 0, r.fn != 15 && at < 0:
		return api.Instr{}, api.ErrForm
	case r.fn == 15:
		return r.instr(), api.OK
	}
	v, ok := wordOf(s[at+1:])
	if !ok {
		return api.Instr{}, api.ErrForm
	}
	return api.Instr{Fn: r.fn, Arg: v}, api.OK
}

// check compares what all functions say of x with the tables.
func check(t *testing.T, x api.Instr) {
	t.Helper()
	want, exists := entryOf(x)
	if ok := instr.May(x); ok != exists {
		t.Errorf("May of %v: %t", x, ok)
	}
	if name, ok := instr.Name(x); name != want.name || ok != exists {
		t.Errorf("Name of %v: %q, %t, want %q, %t", x, name, ok, want.name, exists)
	}
	if takes, leaves, ok := instr.Effect(x); takes != want.takes || leaves != want.leaves || ok != exists {
		t.Errorf("Effect of %v: %d, %d, %t, want %d, %d, %t", x, takes, leaves, ok, want.takes, want.leaves, exists)
	}
	text, wanted := textOf(x)
	s, e := instr.Text(x)
	if s != text || e != wanted {
		t.Errorf("Text of %v: %q, %d, want %q, %d", x, s, e, text, wanted)
	}
	if exists {
		checkRead(t, s, x, api.OK)
	}
}

func checkNamed(t *testing.T, name string, want api.Instr, exists bool) {
	t.Helper()
	if x, ok := instr.Named(name); x != want || ok != exists {
		t.Errorf("Named(%q): %v, %t, want %v, %t", name, x, ok, want, exists)
	}
}

func checkRead(t *testing.T, s string, want api.Instr, wanted api.Errno) {
	t.Helper()
	if x, e := instr.Read(s); x != want || e != wanted {
		t.Errorf("Read(%q): %v, %d, want %v, %d", s, x, e, want, wanted)
	}
}

func checkText(t *testing.T, x api.Instr, want string, wanted api.Errno) {
	t.Helper()
	if s, e := instr.Text(x); s != want || e != wanted {
		t.Errorf("Text of %v: %q, %d, want %q, %d", x, s, e, want, wanted)
	}
}

// TestExamples has the examples of the chapter.
func TestExamples(t *testing.T) {
	none := api.Instr{}
	opr := func(v int32) api.Instr { return api.Instr{Fn: api.FnOpr, Arg: v} }
	if instr.May(opr(0x11)) {
		t.Error("May")
	}
	if name, ok := instr.Name(api.Instr{Fn: api.FnLdc, Arg: 7}); name != "ldc" || !ok {
		t.Error(name, ok)
	}
	checkNamed(t, "add", opr(5), true)
	checkText(t, api.Instr{Fn: api.FnAjw, Arg: -5}, "ajw -5", api.OK)
	checkRead(t, "ldc #FFFFFFFF", api.Instr{Fn: api.FnLdc, Arg: -1}, api.OK)
	checkRead(t, "add ", none, api.ErrForm)
	checkText(t, api.Instr{Fn: api.FnJ}, "j 0", api.OK)
	checkText(t, api.Instr{Fn: api.FnLdlp, Arg: -2147483648}, "ldlp -2147483648", api.OK)
	checkText(t, opr(5), "add", api.OK)
	checkText(t, api.Instr{Fn: api.FnPfix, Arg: 1}, "", api.ErrArg)
	checkText(t, opr(17), "", api.ErrArg)
	checkText(t, opr(-1), "", api.ErrArg)
	checkRead(t, "stl 3", api.Instr{Fn: api.FnStl, Arg: 3}, api.OK)
	checkRead(t, "rev", opr(0), api.OK)
	checkRead(t, "cj #0000000A", api.Instr{Fn: api.FnCj, Arg: 10}, api.OK)
	for _, s := range []string{"stl", "stl  3", "rev 0", "stl 03"} {
		checkRead(t, s, none, api.ErrForm)
	}
	for _, s := range []string{"", "Add", "opr 5", " add"} {
		checkRead(t, s, none, api.ErrName)
	}
	for _, x := range []struct {
		name          string
		takes, leaves int
	}{{"norm", 2, 3}, {"in", 3, 0}, {"wcnt", 1, 2}, {"ret", 0, 0}} {
		y, _ := instr.Named(x.name)
		if takes, leaves, ok := instr.Effect(y); takes != x.takes || leaves != x.leaves || !ok {
			t.Error(x.name, takes, leaves, ok)
		}
	}
}

// TestTables has every row of both tables.
func TestTables(t *testing.T) {
	if len(functions) != 13 || len(operations) != 74 {
		t.Fatal(len(functions), len(operations))
	}
	for _, r := range entries() {
		x := r.instr()
		check(t, x)
		checkNamed(t, r.name, x, true)
		if name, ok := instr.Name(x); name != r.name || !ok {
			t.Errorf("%v: %q, %t", x, name, ok)
		}
		if takes, leaves, ok := instr.Effect(x); takes != r.takes || leaves != r.leaves || !ok {
			t.Errorf("%s: %d, %d, %t", r.name, takes, leaves, ok)
		}
	}
}

// TestFunctions has every number of a function, with operands of all sizes: the numbers above FnOpr too, among them those with the low bits of functions.
func TestFunctions(t *testing.T) {
	exist := []int{0, 1, 3, 4, 5, 7, 8, 9, 10, 11, 12, 13, 14}
	for fn := range 256 {
		for _, v := range operands() {
			x := api.Instr{Fn: uint8(fn), Arg: v}
			check(t, x)
			if fn != 15 && instr.May(x) != slices.Contains(exist, fn) {
				t.Error(x)
			}
		}
	}
}

// TestOperations has every code of an operation, and words that are none.
func TestOperations(t *testing.T) {
	count := 0
	for code := range int32(256) {
		x := api.Instr{Fn: api.FnOpr, Arg: code}
		check(t, x)
		if instr.May(x) {
			count++
		}
	}
	if count != 74 {
		t.Error(count)
	}
	missing := []int32{0x11, 0x14, 0x17, 0x18, 0x1C, 0x23, 0x24, 0x25, 0x26, 0x27, 0x28, 0x2A, 0x2D, 0x3D, 0x3E, 0x50, 0x5A, 0x5B, 0x80, 0xFF, 0x100, 0x105, 0x159, 0x10000, 0x10005, least, least + 5, -1, -2, -0x59, -251, -65531, most, most - 1}
	for _, code := range missing {
		x := api.Instr{Fn: api.FnOpr, Arg: code}
		name, named := instr.Name(x)
		takes, leaves, ok := instr.Effect(x)
		if instr.May(x) || name != "" || named || takes != 0 || leaves != 0 || ok {
			t.Error(code, name, named, takes, leaves, ok)
		}
		checkText(t, x, "", api.ErrArg)
	}
	pick := random(5)
	for range 20000 {
		check(t, api.Instr{Fn: api.FnOpr, Arg: int32(pick()) >> (pick() >> 4 % 32)})
	}
}

// TestPrefixes has the prefixes, which no operand makes an instruction.
func TestPrefixes(t *testing.T) {
	for _, fn := range []uint8{api.FnPfix, api.FnNfix} {
		for _, v := range operands() {
			x := api.Instr{Fn: fn, Arg: v}
			takes, leaves, ok := instr.Effect(x)
			if name, named := instr.Name(x); instr.May(x) || name != "" || named || takes != 0 || leaves != 0 || ok {
				t.Error(x)
			}
			checkText(t, x, "", api.ErrArg)
		}
	}
}

// notNames returns strings that are near mnemonics, and are none.
func notNames() []string {
	l := []string{"", " ", "  ", "opr", "pfix", "nfix", "OPR", "PFIX", "NFIX", "nop", "prefix", "0", "5", "#05", "#00000005", "-1", "\x00", "\n", "é", "ａｄｄ", "jump", "ldnlpp", "fpadd", "dup", "start", "ccnt", "ccnt0", "csub", "csub1", "lddevid", "x"}
	for _, r := range entries() {
		title := strings.ToUpper(r.name[:1]) + r.name[1:]
		tail := r.name[:len(r.name)-1] + strings.ToUpper(r.name[len(r.name)-1:])
		for _, s := range []string{strings.ToUpper(r.name), title, tail, r.name + r.name, r.name[:len(r.name)-1], r.name[1:]} {
			if _, ok := entryNamed(s); !ok {
				l = append(l, s)
			}
		}
		for _, c := range []string{" ", "\t", "\n", "\r", "\x00", ":", "_", ".", "0x", "\xff", "\u00a0", "é"} {
			l = append(l, r.name+c, c+r.name, r.name[:1]+c+r.name[1:])
		}
	}
	return l
}

func TestNamed(t *testing.T) {
	for _, s := range notNames() {
		checkNamed(t, s, api.Instr{}, false)
	}
	for _, s := range []string{strings.Repeat("a", 1<<20), "add" + strings.Repeat(" ", 1<<20), strings.Repeat("add", 1<<18)} {
		if x, ok := instr.Named(s); x != (api.Instr{}) || ok {
			t.Error(len(s), x, ok)
		}
	}
}

// TestNamedShort has all strings of up to four lower case letters.
func TestNamedShort(t *testing.T) {
	names := map[string]api.Instr{}
	for _, r := range entries() {
		names[r.name] = r.instr()
	}
	var all func(s string)
	all = func(s string) {
		want, exists := names[s]
		checkNamed(t, s, want, exists)
		for c := 'a'; c <= 'z' && len(s) < 4; c++ {
			all(s + string(c))
		}
	}
	all("")
}

// TestText has operands that are written out.
func TestText(t *testing.T) {
	for _, x := range []struct {
		v int32
		s string
	}{
		{0, "0"}, {1, "1"}, {9, "9"}, {10, "10"}, {15, "15"}, {16, "16"}, {100, "100"}, {-1, "-1"}, {-10, "-10"}, {-16, "-16"},
		{most, "2147483647"}, {most - 1, "2147483646"}, {least, "-2147483648"}, {least + 1, "-2147483647"},
	} {
		for _, r := range functions {
			y := api.Instr{Fn: r.fn, Arg: x.v}
			checkText(t, y, r.name+" "+x.s, api.OK)
			checkRead(t, r.name+" "+x.s, y, api.OK)
		}
	}
	for _, r := range operations {
		checkText(t, r.instr(), r.name, api.OK)
	}
}

// TestReadHexadecimal has the other text of operands; it is not the one that is written.
func TestReadHexadecimal(t *testing.T) {
	for _, v := range operands() {
		for _, r := range functions {
			checkRead(t, r.name+" "+hexadecimal(v), api.Instr{Fn: r.fn, Arg: v}, api.OK)
			checkRead(t, r.name+" "+decimal(v), api.Instr{Fn: r.fn, Arg: v}, api.OK)
		}
	}
	for s, v := range map[string]int32{"#00000000": 0, "#0000000A": 10, "#7FFFFFFF": most, "#80000000": least, "#80000001": least + 1, "#FFFFFFFE": -2, "#FFFFFFFF": -1, "#89ABCDEF": -1985229329} {
		checkRead(t, "ajw "+s, api.Instr{Fn: api.FnAjw, Arg: v}, api.OK)
	}
}

// TestReadForm has names that exist with operands that are not allowed.
func TestReadForm(t *testing.T) {
	bad := []string{
		"", " ", "  ", " 3", "3 ", "3 4", "03", "00", "-0", "-", "--1", "-03", "+3", "3-", "0x3", "3a", "a", "A", "#", "#3", "#0000000", "#000000000", "#0000000a", "#0000000G", "-#00000001", "#-0000001", "# 00000001", "#00000001 ", "##00000001",
		"2147483648", "-2147483649", "4294967295", "4294967296", "9223372036854775808", "18446744073709551616", "99999999999999999999999999", "#100000000", "3\n", "\t3", "3\x00", "٣", "1_0", "1.0", "1e1", "- 1", "3:", "rev",
	}
	for _, r := range functions {
		checkRead(t, r.name, api.Instr{}, api.ErrForm)
		for _, s := range bad {
			checkRead(t, r.name+" "+s, api.Instr{}, api.ErrForm)
		}
	}
	for _, r := range operations {
		for _, s := range slices.Concat(bad, []string{"0", "1", "5", "-1", decimal(r.arg), hexadecimal(r.arg), "#00000000"}) {
			checkRead(t, r.name+" "+s, api.Instr{}, api.ErrForm)
		}
	}
	for _, s := range []string{"ldc ", "ldc -", "ldc #"} {
		long := s + strings.Repeat("0", 1<<20)
		if x, e := instr.Read(long); x != (api.Instr{}) || e != api.ErrForm {
			t.Error(s, x, e)
		}
	}
}

// TestReadName has names that are no mnemonics, with and without something behind them: ErrName is named first.
func TestReadName(t *testing.T) {
	for _, s := range notNames() {
		name, _, _ := strings.Cut(s, " ")
		if _, ok := entryNamed(name); ok { // a mnemonic with a space behind it
			continue
		}
		for _, behind := range []string{"", " ", " 0", " 3", " -1", "  3", " 03", " 2147483648", " #00000005", " x"} {
			checkRead(t, s+behind, api.Instr{}, api.ErrName)
		}
	}
	for _, s := range []string{" ldc 5", "ldc\t5", "ldc5", "ldc-5", "ldc#00000005", "LDC 5", "Ldc 5", "ldc\n5", "l: ldc 5", "opr", "opr 0", "pfix 0", "nfix 0", "pfix", "add\n", "add\t", "add;", "add,", "\x00add"} {
		checkRead(t, s, api.Instr{}, api.ErrName)
	}
}

// TestReadReference changes single bytes of texts, and compares with the chapter's rules.
func TestReadReference(t *testing.T) {
	const letters = " 0123456789-#ABCDFabcdejlnopstx\t\n"
	pick := random(9)
	accepted := 0
	for range 100000 {
		from := [][]entry{functions, entries()}[pick()>>5%2]
		s := from[int(pick()>>3)%len(from)].name
		switch pick() >> 5 % 4 {
		case 0, 1:
			s += " " + decimal(int32(pick())>>(pick()>>4%32))
		case 2:
			s += " " + hexadecimal(int32(pick())>>(pick()>>4%32))
		}
		for range pick() >> 6 % 3 {
			at := int(pick()>>4) % (len(s) + 1)
			behind := min(len(s), at+int(pick()>>7%2))
			s = s[:at] + letters[pick()>>3%uint32(len(letters)):][:pick()>>8%2] + s[behind:]
		}
		x, e := instrOf(s)
		checkRead(t, s, x, e)
		if e == api.OK {
			accepted++
		}
	}
	if accepted < 20000 || accepted > 80000 {
		t.Error(accepted)
	}
}

// TestBack reads the texts of instructions, and looks for equal ones.
func TestBack(t *testing.T) {
	texts := map[string]api.Instr{}
	for fn := range uint8(16) {
		for _, v := range operands() {
			x := api.Instr{Fn: fn, Arg: v}
			s, e := instr.Text(x)
			if (e == api.OK) != instr.May(x) {
				t.Error(x, s, e)
			}
			if e != api.OK {
				continue
			}
			checkRead(t, s, x, api.OK)
			if y, is := texts[s]; is && y != x {
				t.Errorf("%q is the text of %v and of %v", s, x, y)
			}
			texts[s] = x
		}
	}
}

// TestCounts has what the tables have in common, without the tables.
func TestCounts(t *testing.T) {
	names := map[string]int{}
	count := func(x api.Instr) bool {
		name, ok := instr.Name(x)
		if !ok {
			return false
		}
		names[name]++
		y, named := instr.Named(name)
		if again, _ := instr.Name(y); y != x || again != name || !named {
			t.Error(name, x, y)
		}
		takes, leaves, is := instr.Effect(x)
		if !is || leaves > takes+1 || takes < 0 || takes > 3 || leaves < 0 || leaves > 3 {
			t.Error(name, takes, leaves, is)
		}
		return true
	}
	functions, operations := 0, 0
	for fn := range 256 {
		if fn != 15 && count(api.Instr{Fn: uint8(fn)}) {
			functions++
		}
	}
	for code := int32(-1000); code < 70000; code++ {
		if count(api.Instr{Fn: api.FnOpr, Arg: code}) {
			operations++
		}
	}
	if functions != 13 || operations != 74 || len(names) != 87 {
		t.Error(functions, operations, len(names))
	}
}
