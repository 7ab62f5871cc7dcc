package eval_test

import (
	"slices"
	"testing"

	"transputer/api"
	"transputer/eval"
)

// P17.3: places without an index.
func TestSingles(t *testing.T) {
	s := storeOf("5 6 7;; 1; -1")
	for v, want := range map[int]bool{0: true, 1: false, 2: true, 3: true, 4: false, 5: false, 255: false, 256: false, -1: false, -2: false, 1 << 32: false, 1<<63 - 1: false, -1 << 63: false} {
		if want {
			checkPlace(t, s, api.KPlace{V: v}, v, 0, true)
			checkPlace(t, s, api.KPlace{V: v, Index: []api.KExpr{}}, v, 0, true)
		} else {
			checkPlace(t, s, api.KPlace{V: v}, 0, 0, false)
		}
	}
	checkPlace(t, nil, api.KPlace{}, 0, 0, false)
	checkPlace(t, [][]int32{{}}, api.KPlace{}, 0, 0, false)
	many := slices.Repeat(storeOf("1 2"), 300)
	for _, v := range []int{255, 256, 299} {
		checkPlace(t, many, api.KPlace{V: v}, v, 0, true)
		checkPlace(t, many, api.KPlace{V: v, Index: []api.KExpr{number(1)}}, v, 1, true)
	}
	checkPlace(t, many, api.KPlace{V: 300}, 0, 0, false)
}

// P17.3: places with an index, valid or not, and with more than one.
func TestIndexedPlaces(t *testing.T) {
	s := storeOf("5 6 7;; 1; 2147483647")
	at := func(v int, index ...string) (p api.KPlace) {
		p.V = v
		for _, x := range index {
			p.Index = append(p.Index, kexpr(x))
		}
		return p
	}
	for index, i := range map[string]int{"0": 0, "1": 1, "2": 2, "v2": 1, "v2[0]": 1, "v2 + v2": 2, "v0 - 5": 0, "7 - v0[v2]": 1, "BYTE 2": 2, "0 AND (1 / 0)": 0, "v3 PLUS -2147483646": 1} {
		checkPlace(t, s, at(0, index), 0, i, true)
	}
	for _, index := range []string{"3", "-1", "4", "256", "v0", "v1", "v1[0]", "v3", "-2147483648", "v9", "1 / 0", "BYTE 256", "v3 + 1", "v2 AND 2", "v256", "v-1"} {
		checkPlace(t, s, at(0, index), 0, 0, false)
	}
	checkPlace(t, s, at(2, "0"), 2, 0, true)
	checkPlace(t, s, at(2, "1"), 0, 0, false)
	for _, v := range []int{1, 4, 255, 256, -1, 1 << 40} {
		for _, index := range []string{"0", "1", "-1", "1 / 0"} {
			checkPlace(t, s, at(v, index), 0, 0, false)
		}
	}
	for _, index := range [][]string{{"0", "0"}, {"0", "1"}, {"0", "1 / 0"}, {"1 / 0", "0"}, {"0", "0", "0"}} {
		checkPlace(t, s, at(0, index...), 0, 0, false)
	}
	for _, bad := range []api.KExpr{{}, {Kind: 7}, {Kind: api.KxNumber, V: 1}, {Kind: api.KxElem, V: 0}, convert(api.TyTimer, number(0))} {
		checkPlace(t, s, api.KPlace{Index: []api.KExpr{bad}}, 0, 0, false)
		checkPlace(t, s, api.KPlace{Index: []api.KExpr{number(0), bad}}, 0, 0, false)
	}
}

// P17.1: Put of elements that there are.
func TestPut(t *testing.T) {
	const text = "7; 1 2 3;; 0"
	for v, l := range storeOf(text) {
		for i := range l {
			for _, x := range []int32{least, -1, 0, 1, 2, 255, 256, most} {
				s, want := storeOf(text), storeOf(text)
				want[v][i] = x
				checkStore(t, "Put", eval.Put(s, v, i, x), want)
				checkStore(t, "after Put", s, storeOf(text))
			}
		}
	}
	checkStore(t, "Put", eval.Put(storeOf("5"), 0, 0, 6), storeOf("6"))
	many := slices.Repeat(storeOf("1 2"), 300)
	for _, v := range []int{0, 255, 256, 299} {
		if s := eval.Put(many, v, 1, 9); s[v][1] != 9 || len(s) != 300 {
			t.Errorf("Put: %s", brief(s))
		}
	}
	checkStore(t, "Put", eval.Put([][]int32{make([]int32, 1000)}, 0, 999, 3)[:1], [][]int32{append(make([]int32, 999), 3)})
}

// P17.1: Put of elements that there are not.
func TestPutNothing(t *testing.T) {
	for _, text := range []string{"7; 1 2 3;; 0", "5", ";", ";;", ""} {
		s := storeOf(text)
		for _, v := range []int{-1 << 63, -2, -1, 0, 1, 2, 3, 4, 5, 256, 1 << 32, 1<<63 - 1} {
			for _, i := range []int{-1 << 63, -1 << 32, -2, -1, 0, 1, 2, 3, 4, 64, 1 << 32, 1<<63 - 1} {
				if v < 0 || v >= len(s) || i < 0 || i >= len(s[v]) {
					checkStore(t, "Put", eval.Put(s, v, i, 99), storeOf(text))
				}
			}
		}
	}
	checkStore(t, "Put", eval.Put(nil, 0, 0, 1), nil)
	checkStore(t, "Put", eval.Put([][]int32{}, 0, 0, 1), nil)
	checkStore(t, "Put", eval.Put([][]int32{{}, nil}, 0, 0, 1), storeOf(";"))
	checkStore(t, "Put", eval.Put([][]int32{{}, nil}, 1, 0, 1), storeOf(";"))
}

// P17.1: lists that are the same memory in a store are two in the result.
func TestPutSharedLists(t *testing.T) {
	l := []int32{1, 2, 3}
	s := [][]int32{l, l, l[:2], l[1:]}
	checkStore(t, "Put", eval.Put(s, 1, 1, 9), storeOf("1 2 3; 1 9 3; 1 2; 2 3"))
	checkStore(t, "Put", eval.Put(s, 2, 0, 9), storeOf("1 2 3; 1 2 3; 9 2; 2 3"))
	checkStore(t, "after Put", s, storeOf("1 2 3; 1 2 3; 1 2; 2 3"))
}
