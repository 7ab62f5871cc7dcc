package word_test

import (
	"strconv"
	"strings"
	"testing"

	"transputer/api"
	"transputer/word"
)

// P1.5
func TestText(t *testing.T) {
	for _, c := range []struct {
		v        int32
		dec, hex string
	}{
		{0, "0", "#00000000"}, {1, "1", "#00000001"}, {-1, "-1", "#FFFFFFFF"}, {-10, "-10", "#FFFFFFF6"}, {10, "10", "#0000000A"},
		{305419896, "305419896", "#12345678"}, {-1698898192, "-1698898192", "#9ABCDEF0"}, {65536, "65536", "#00010000"},
		{most, "2147483647", "#7FFFFFFF"}, {least, "-2147483648", "#80000000"}, {least + 1, "-2147483647", "#80000001"},
	} {
		if s := word.Text(c.v, false); s != c.dec {
			t.Errorf("Text(%d, false): %q", c.v, s)
		}
		if s := word.Text(c.v, true); s != c.hex {
			t.Errorf("Text(%d, true): %q", c.v, s)
		}
	}
}

// P1.5
func TestReadInvalid(t *testing.T) {
	l := []string{
		"", "-", "+", "#", "-#", "--1", "+1", "-+1", " 1", "1 ", "- 1", "1\n", "\t1", "1\x00", "\x00",
		"-0", "00", "01", "-01", "-00", "007", "0000000000", "00000000000000000001",
		"2147483648", "-2147483649", "4294967295", "4294967296", "4294967297", "-4294967295", "-4294967296", "9999999999",
		"18446744073709551616", "18446744073709551617", "-18446744073709551617", "340282366920938463463374607431768211457",
		"#0", "#1", "#0000001", "#000000001", "#0000000000000001", "#FFFFFFFFF", "#100000000", "#10000000000000001",
		"#fffffff6", "#FFFFFFf6", "#0000000a", "#FFFFFFFG", "#0000000/", "#0000000:", "#0000000@", "#0000000`", "##0000000",
		"#-0000001", "-#00000001", "+#00000001", "#+0000001", " #00000001", "#00000001 ", "#0000_0001", "00000001", "FFFFFFF6", "A", "F", "1A", "1F",
		"0x10", "0X10", "0xFFFFFFF6", "1_000", "1.0", "1e3", "0b1", "0o7", "1h", "$00000001", "1,000", "one", "'1'",
		"\u0661", "\uFF11", "1\u0661", "-\u0661", "\u22121", "#0000000\uFF21", "\uFFFD", "\xff", "1\xff", "#0000000\xff", "#\xff\xff\xff\xff\xff\xff\xff\xff",
		strings.Repeat("9", 1<<20), "1" + strings.Repeat("0", 1<<20), strings.Repeat("0", 1<<20), "-" + strings.Repeat("0", 1<<20) + "1", "#" + strings.Repeat("F", 1<<20), strings.Repeat("#", 1<<20), strings.Repeat("-", 1<<20),
	}
	for _, s := range l {
		if v, e := word.Read(s); v != 0 || e != api.ErrForm {
			t.Errorf("Read(%.40q): %d, %v", s, v, e)
		}
	}
}

// P1.5: among the short strings, those and only those are read that spell their number as it is written.
func TestReadShort(t *testing.T) {
	l := []string{""}
	for range 4 {
		var longer []string
		for _, s := range l {
			n, err := strconv.Atoi(s)
			v, e := word.Read(s)
			if err == nil && strconv.Itoa(n) == s {
				if v != int32(n) || e != api.OK {
					t.Errorf("Read(%q): %d, %v", s, v, e)
				}
			} else if v != 0 || e != api.ErrForm {
				t.Errorf("Read(%q): %d, %v", s, v, e)
			}
			for _, c := range []byte("#-+0123456789AFGaf \x80") {
				longer = append(longer, s+string([]byte{c}))
			}
		}
		l = longer
	}
}

// P1.5, P1.6: a word is read back from both of its texts, and no other word has one of them.
func TestReadBack(t *testing.T) {
	l := edges()
	for i := range int32(3000) {
		l = append(l, i*1431655-most, i-1500)
	}
	of := map[string]int32{}
	for _, v := range l {
		dec, hex := word.Text(v, false), word.Text(v, true)
		if len(hex) != 9 || dec == hex {
			t.Errorf("the texts of %d: %q, %q", v, dec, hex)
		}
		for _, s := range []string{dec, hex} {
			if w, there := of[s]; there && w != v {
				t.Errorf("%q is the text of %d and of %d", s, w, v)
			}
			of[s] = v
			if w, e := word.Read(s); w != v || e != api.OK {
				t.Errorf("Read(%q): %d, %v", s, w, e)
			}
		}
	}
}

// P0.1, P1.5, P1.6: whatever is read is a text of the word that it is read as.
func FuzzRead(f *testing.F) {
	for _, s := range []string{"0", "-1", "2147483647", "#FFFFFFF6", "-0", "#fff", "\xff"} {
		f.Add(s)
	}
	f.Fuzz(func(t *testing.T, s string) {
		v, e := word.Read(s)
		is := word.Text(v, false) == s || word.Text(v, true) == s
		if e == api.OK && !is || e != api.OK && (v != 0 || e != api.ErrForm || is) {
			t.Errorf("Read(%q): %d, %v", s, v, e)
		}
	})
}
