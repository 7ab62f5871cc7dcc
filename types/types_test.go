package types_test

import (
	"fmt"
	"math"
	"slices"
	"strings"
	"testing"

	"transputer/api"
	"transputer/types"
)

// reserved are the words that layer 8 lists.
var reserved = strings.Fields(`AFTER ALT AND BOOL BYTE CASE CHAN ELSE FALSE FOR IF INT IS MINUS NOT OF OR PAR PLACED PLUS PRI PROC PROCESSOR PROTOCOL
	SEQ SIZE SKIP STOP TIMER TIMES TRUE VAL WHILE`)

var (
	longest = strings.Repeat("n", 32)
	tooLong = strings.Repeat("n", 33)
	huge    = strings.Repeat("n", 1<<20)
)

// names are names, at the edges of what is one.
var names = []string{"p", "Z", "p.1", "int", "INT.", "INTS", "a..", "x9", longest, strings.Repeat("Q", 31) + "."}

// noNames are not.
var noNames = append([]string{" ", "p ", " p", ".p", "1", "1p", "p_q", "p-q", "é", "p\x00", "p\n", "[", "CHAN OF", tooLong, huge, "\xff"}, reserved...)

var kinds = []api.TypeKind{0, 1, 2, 3, 4, 5, 6, 7, 128, 254, 255}

// dims are at all edges; the ones of an array are between the limits.
var dims = []int{math.MinInt, math.MinInt32, -65, -64, -2, -1, 0, 1, 2, 3, 31, 32, 63, 64, 65, 66, 128, 255, 256, 257, 1 << 16, 1 << 31, 1<<32 + 1, math.MaxInt}

var primitive = []api.TypeKind{api.TyInt, api.TyByte, api.TyBool}

// random returns numbers in a fixed order without a pattern.
func random(seed uint32) func(n int) int {
	return func(n int) int {
		seed = seed*1664525 + 1013904223
		return int(seed>>9) % n
	}
}

// brief returns what a message shows of a value.
func brief(x any) string {
	s := fmt.Sprintf("%q", fmt.Sprint(x))
	return s[:min(300, len(s))]
}

// existing returns the types of the chapter's table, those of protocols with the given names.
func existing(protocols ...string) []api.Type {
	l := []api.Type{{Kind: api.TyTimer}}
	for dim := 0; dim <= 64; dim++ {
		for _, k := range primitive {
			l = append(l, api.Type{Kind: k, Dim: dim}, api.Type{Kind: api.TyChan, Dim: dim, Item: k})
		}
		for _, s := range protocols {
			l = append(l, api.Type{Kind: api.TyChan, Dim: dim, Proto: s})
		}
	}
	return l
}

// candidates returns types with all combinations of the fields' edges.
func candidates() (l []api.Type) {
	for _, k := range kinds {
		for _, dim := range dims {
			for _, item := range kinds {
				for _, s := range slices.Concat([]string{""}, names, noNames) {
					l = append(l, api.Type{Kind: k, Dim: dim, Item: item, Proto: s})
				}
			}
		}
	}
	return l
}

// P9.1: exactly the types of the table exist, and a type has as many words as it has elements.
func TestExistence(t *testing.T) {
	all := map[api.Type]bool{}
	for _, x := range existing(names...) {
		all[x] = true
		if !types.May(x) {
			t.Errorf("May(%s) = false", brief(x))
		}
		if got, want := types.Words(x), wordsByRules(x); got != want {
			t.Errorf("Words(%s) = %d, want %d", brief(x), got, want)
		}
	}
	for _, x := range candidates() {
		if got := types.May(x); got != all[x] {
			t.Errorf("May(%s) = %t", brief(x), got)
		}
		if got := types.Words(x); !all[x] && got != 0 {
			t.Errorf("Words(%s) = %d, want 0", brief(x), got)
		}
	}
}

// wordsByRules returns the words of a type that exists.
func wordsByRules(t api.Type) int {
	switch {
	case t.Kind == api.TyTimer:
		return 0
	case t.Dim == 0:
		return 1
	}
	return t.Dim
}

// P9.1: the cases of the table, one by one.
func TestExistenceTable(t *testing.T) {
	for _, c := range []struct {
		x     api.Type
		may   bool
		words int
	}{
		{api.Type{}, false, 0},
		{api.Type{Dim: 1}, false, 0},
		{api.Type{Item: api.TyInt}, false, 0},
		{api.Type{Proto: "p"}, false, 0},
		{api.Type{Kind: api.TyInt}, true, 1},
		{api.Type{Kind: api.TyByte}, true, 1},
		{api.Type{Kind: api.TyBool}, true, 1},
		{api.Type{Kind: api.TyInt, Dim: 1}, true, 1},
		{api.Type{Kind: api.TyByte, Dim: 5}, true, 5},
		{api.Type{Kind: api.TyBool, Dim: 64}, true, 64},
		{api.Type{Kind: api.TyInt, Dim: 65}, false, 0},
		{api.Type{Kind: api.TyInt, Dim: -1}, false, 0},
		{api.Type{Kind: api.TyInt, Item: api.TyInt}, false, 0},
		{api.Type{Kind: api.TyInt, Proto: "p"}, false, 0},
		{api.Type{Kind: api.TyChan, Item: api.TyInt}, true, 1},
		{api.Type{Kind: api.TyChan, Item: api.TyByte, Dim: 3}, true, 3},
		{api.Type{Kind: api.TyChan, Item: api.TyBool, Dim: 64}, true, 64},
		{api.Type{Kind: api.TyChan, Item: api.TyBool, Dim: 65}, false, 0},
		{api.Type{Kind: api.TyChan, Item: api.TyBool, Dim: -1}, false, 0},
		{api.Type{Kind: api.TyChan}, false, 0},
		{api.Type{Kind: api.TyChan, Dim: 3}, false, 0},
		{api.Type{Kind: api.TyChan, Item: api.TyChan}, false, 0},
		{api.Type{Kind: api.TyChan, Item: api.TyTimer}, false, 0},
		{api.Type{Kind: api.TyChan, Item: 6}, false, 0},
		{api.Type{Kind: api.TyChan, Proto: "p"}, true, 1},
		{api.Type{Kind: api.TyChan, Proto: longest, Dim: 2}, true, 2},
		{api.Type{Kind: api.TyChan, Proto: tooLong}, false, 0},
		{api.Type{Kind: api.TyChan, Proto: "INT"}, false, 0},
		{api.Type{Kind: api.TyChan, Proto: "TIMER"}, false, 0},
		{api.Type{Kind: api.TyChan, Item: api.TyInt, Proto: "p"}, false, 0},
		{api.Type{Kind: api.TyTimer}, true, 0},
		{api.Type{Kind: api.TyTimer, Dim: 1}, false, 0},
		{api.Type{Kind: api.TyTimer, Item: api.TyInt}, false, 0},
		{api.Type{Kind: api.TyTimer, Proto: "p"}, false, 0},
		{api.Type{Kind: 6}, false, 0},
		{api.Type{Kind: 255}, false, 0},
		{api.Type{Kind: 255, Item: api.TyInt}, false, 0},
	} {
		if may, words := types.May(c.x), types.Words(c.x); may != c.may || words != c.words {
			t.Errorf("May, Words of %s = %t, %d", brief(c.x), may, words)
		}
	}
}

// P9.1: types are equal if all their fields are, whether or not they exist.
func TestSame(t *testing.T) {
	l := []api.Type{
		{}, {Dim: 1}, {Dim: -1}, {Dim: 1 << 32}, {Item: api.TyInt}, {Item: 255}, {Proto: "p"}, {Proto: huge}, {Proto: huge[1:]}, {Proto: "P"},
		{Kind: api.TyInt}, {Kind: api.TyByte}, {Kind: api.TyBool}, {Kind: api.TyTimer}, {Kind: 6}, {Kind: 255}, {Kind: api.TyTimer, Dim: 1},
		{Kind: api.TyInt, Dim: 1}, {Kind: api.TyInt, Dim: 64}, {Kind: api.TyInt, Dim: 65}, {Kind: api.TyInt, Proto: "p"},
		{Kind: api.TyChan}, {Kind: api.TyChan, Item: api.TyInt}, {Kind: api.TyChan, Item: api.TyByte}, {Kind: api.TyChan, Item: api.TyInt, Dim: 3},
		{Kind: api.TyChan, Proto: "p"}, {Kind: api.TyChan, Proto: "q"}, {Kind: api.TyChan, Proto: "p", Dim: 3}, {Kind: api.TyChan, Proto: "p", Item: api.TyInt},
		{Kind: 255, Dim: math.MinInt, Item: 255, Proto: "\xff"}, {Kind: 255, Dim: math.MaxInt, Item: 255, Proto: "\xff"},
		{Kind: 255, Dim: math.MinInt, Item: 254, Proto: "\xff"}, {Kind: 255, Dim: math.MinInt, Item: 255, Proto: "\xfe"},
	}
	for i, a := range l {
		for j, b := range l {
			if got := types.Same(a, b); got != (i == j) {
				t.Errorf("Same(%s, %s) = %t", brief(a), brief(b), got)
			}
		}
		a.Proto = strings.Clone(a.Proto)
		if !types.Same(a, l[i]) {
			t.Errorf("Same(%s) of the same bytes elsewhere = false", brief(a))
		}
	}
}

// P9.4: the values and the sizes of each kind.
func TestValues(t *testing.T) {
	edges := []int32{math.MinInt32, math.MinInt32 + 1, -65536, -257, -256, -255, -2, -1, 0, 1, 2, 3, 127, 128, 254, 255, 256, 257, 511, 512, 65535, 65536, math.MaxInt32 - 1, math.MaxInt32}
	for i := range 1 << 8 {
		k := api.TypeKind(i)
		size, least, greatest := 0, int32(1), int32(0)
		switch k {
		case api.TyInt:
			size, least, greatest = 4, math.MinInt32, math.MaxInt32
		case api.TyByte:
			size, least, greatest = 1, 0, 255
		case api.TyBool:
			size, least, greatest = 1, 0, 1
		}
		if got := types.Size(k); got != size {
			t.Errorf("Size(%d) = %d, want %d", k, got, size)
		}
		for _, v := range edges {
			if got := types.Fits(k, v); got != (least <= v && v <= greatest) {
				t.Errorf("Fits(%d, %d) = %t", k, v, got)
			}
		}
		for v := int32(-300); v <= 600; v++ {
			if got := types.Fits(k, v); got != (least <= v && v <= greatest) {
				t.Errorf("Fits(%d, %d) = %t", k, v, got)
			}
		}
	}
}

// P9.4: the chapter's examples, and the edges that it names.
func TestValuesTable(t *testing.T) {
	for _, c := range []struct {
		v                     int32
		isInt, isByte, isBool bool
	}{
		{-2147483648, true, false, false},
		{-1, true, false, false},
		{0, true, true, true},
		{1, true, true, true},
		{2, true, true, false},
		{255, true, true, false},
		{256, true, false, false},
		{2147483647, true, false, false},
	} {
		if types.Fits(api.TyInt, c.v) != c.isInt || types.Fits(api.TyByte, c.v) != c.isByte || types.Fits(api.TyBool, c.v) != c.isBool {
			t.Errorf("Fits of %d", c.v)
		}
		for _, k := range []api.TypeKind{api.NoType, api.TyChan, api.TyTimer, 6, 255} {
			if types.Fits(k, c.v) {
				t.Errorf("Fits(%d, %d) = true", k, c.v)
			}
		}
	}
	for k, want := range []int{0, 4, 1, 1, 0, 0, 0} {
		if got := types.Size(api.TypeKind(k)); got != want {
			t.Errorf("Size(%d) = %d, want %d", k, got, want)
		}
	}
}
