package word

import (
	"math"
	"strconv"
	"strings"

	"transputer/api"
)

// hexMark stands in front of the digits of a hexadecimal text.
const hexMark = "#"

// digitSet holds the digits of both bases, in the order of their values.
const digitSet = "0123456789ABCDEF"

// Text returns the decimal form of v, or its hexadecimal one.
func Text(v int32, hex bool) string {
	if !hex {
		return strconv.Itoa(int(v))
	}
	var digits [8]byte
	for i := range digits {
		digits[i] = digitSet[Shr(v, int32(28-4*i))&15]
	}
	return hexMark + string(digits[:])
}

// Read returns the word whose decimal or hexadecimal form s is.
func Read(s string) (int32, api.Errno) {
	n, hex, ok := value(s)
	v := reduce(n)
	// A number has several spellings; only the word's own text is read.
	if !ok || Text(v, hex) != s {
		return 0, api.ErrForm
	}
	return v, api.OK
}

// value returns the number that s spells, with or without leading zeros, and whether it is hexadecimal; ok is false if s spells none, or one that no word has.
func value(s string) (n int64, hex, ok bool) {
	if digits, is := strings.CutPrefix(s, hexMark); is {
		n, ok = natural(digits, 16)
		return n, true, ok
	}
	digits, minus := strings.CutPrefix(s, "-")
	n, ok = natural(digits, 10)
	if minus {
		n = -n
	}
	return n, false, ok
}

// natural returns the number that the digits spell to a base. It gives up above all words taken as unsigned: no text is that of a larger number.
func natural(digits string, base int) (n int64, ok bool) {
	for _, c := range digits {
		d := strings.IndexRune(digitSet[:base], c)
		if d < 0 || n > math.MaxUint32 {
			return 0, false
		}
		n = n*int64(base) + int64(d)
	}
	return n, true
}
