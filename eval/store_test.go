package eval_test

import (
	"fmt"
	"slices"
	"testing"

	"transputer/api"
	"transputer/eval"
)

// checkVars checks Store, and May of what it returns and of stores that are much like it, for variables that are sound or not.
func checkVars(t *testing.T, vars []api.Var, sound bool) {
	t.Helper()
	k := api.Kernel{Vars: vars}
	s := eval.Store(k)
	if !sound {
		if s != nil {
			t.Errorf("Store(%s) = %s", brief(vars), brief(s))
		}
		checkMay(t, k, nil, false)
		checkMay(t, k, slices.Repeat(storeOf("0"), len(vars)), false)
		var zeros [][]int32
		for _, x := range vars {
			zeros = append(zeros, make([]int32, min(max(1, x.Dim), 1000)))
		}
		checkMay(t, k, zeros, false)
		return
	}
	if len(s) != len(vars) {
		t.Errorf("Store(%s) has %d lists", brief(vars), len(s))
		return
	}
	for v, x := range vars {
		if !slices.Equal(s[v], make([]int32, max(1, x.Dim))) {
			t.Errorf("Store(%s): the list of variable %d is %v", brief(vars), v, s[v])
		}
	}
	checkMay(t, k, s, true)
	checkMay(t, k, append(slices.Clone(s), []int32{0}), false)
	if len(s) > 0 {
		checkMay(t, k, s[1:], false)
		checkMay(t, k, s[:len(s)-1], false)
	}
}

// P17.1: the numbers of variables.
func TestNumbersOfVariables(t *testing.T) {
	for _, n := range []int{0, 1, 2, 255, 256, 257, 300, 1000} {
		checkVars(t, slices.Repeat([]api.Var{{Kind: api.TyInt}}, n), n <= 256)
		checkVars(t, slices.Repeat([]api.Var{{Kind: api.TyBool, Dim: 64}, {Kind: api.TyByte}}, n/2), n/2*2 <= 256)
	}
	checkVars(t, nil, true)
	checkVars(t, []api.Var{}, true)
	checkMay(t, api.Kernel{}, nil, true)
	checkMay(t, api.Kernel{}, [][]int32{}, true)
	checkMay(t, api.Kernel{}, [][]int32{{}}, false)
	checkMay(t, api.Kernel{}, [][]int32{{0}}, false)
}

// P17.1: the kinds and dimensions of variables, wherever the variable is.
func TestSoundVariables(t *testing.T) {
	integer := api.Var{Kind: api.TyInt}
	for n := range 256 {
		k := api.TypeKind(n)
		for _, dim := range []int{0, 1, 2, 3, 63, 64, 65, 128, -1, -64, 1 << 32, 1<<63 - 1, -1 << 63} {
			x := api.Var{Kind: k, Dim: dim}
			sound := 1 <= n && n <= 3 && 0 <= dim && dim <= 64
			checkVars(t, []api.Var{x}, sound)
			checkVars(t, []api.Var{x, integer, integer}, sound)
			checkVars(t, []api.Var{integer, integer, x}, sound)
		}
	}
}

// P17.1: the lengths of lists.
func TestLengths(t *testing.T) {
	for _, k := range kinds {
		for dim := range 65 {
			x := api.Kernel{Vars: []api.Var{{Kind: api.TyInt}, {Kind: k, Dim: dim}, {Kind: api.TyBool, Dim: 2}}}
			for n := range 67 {
				checkMay(t, x, [][]int32{{5}, make([]int32, n), {0, 1}}, n == max(dim, 1))
			}
			checkMay(t, x, [][]int32{{5}, nil, {0, 1}}, false)
		}
	}
	k := kernelOf("INT [3]BOOL BYTE")
	for s, want := range map[string]bool{
		"0; 0 0 0; 0": true, "0; 0 0 0": false, "0; 0 0 0; 0; 0": false, "0; 0 0 0; 0;": false, "": false, "0 0; 0 0 0; 0": false, "; 0 0 0; 0": false, "0; 0 0; 0": false, "0; 0 0 0 0; 0": false,
		"0; 0 0 0; 0 0": false, "0; 0 0 0;": false, "0 0 0; 0; 0": false, "0; 0; 0 0 0": false, "; 0; 0 0 0; 0": false,
	} {
		checkMay(t, k, storeOf(s), want)
	}
}

// P17.1: the elements of variables of each kind, wherever the element is.
func TestElements(t *testing.T) {
	for _, x := range []int32{least, least + 1, -256, -2, -1, 0, 1, 2, 3, 127, 128, 254, 255, 256, 257, 65536, most} {
		for word, want := range map[string]bool{"INT": true, "BYTE": 0 <= x && x <= 255, "BOOL": 0 <= x && x <= 1} {
			for _, c := range []struct{ vars, store string }{
				{"%s", "%d"}, {"INT %s BOOL", "0; %d; 1"}, {"[2]%s", "1 %d"}, {"[2]%s", "%d 0"}, {"[4]%s", "0 1 %d 1"}, {"INT [3]%s BOOL", "1; 1 0 %d; 1"},
			} {
				checkMay(t, kernelOf(fmt.Sprintf(c.vars, word)), storeOf(fmt.Sprintf(c.store, x)), want)
			}
		}
	}
}

// P17.1: only the variables of a kernel count.
func TestOtherParts(t *testing.T) {
	valid := kernelOf("INT [2]BYTE")
	for _, k := range []api.Kernel{
		{Vars: valid.Vars},
		{Vars: valid.Vars, Chans: []api.HostKind{9}},
		{Vars: valid.Vars, Chans: valid.Chans, Root: api.KProc{Kind: 77, V: -1}},
		{Vars: valid.Vars, Chans: valid.Chans, Root: valid.Root, Procs: []int{-3, -3}},
		{Vars: valid.Vars, Chans: make([]api.HostKind, 100), Root: api.KProc{Kind: api.KpClear, V: 2}, Procs: make([]int, 100)},
	} {
		checkStore(t, "Store", eval.Store(k), storeOf("0; 0 0"))
		checkMay(t, k, storeOf("-1; 255 0"), true)
		checkMay(t, k, storeOf("-1; 256 0"), false)
	}
	notSound := valid
	notSound.Vars = append(slices.Clone(valid.Vars), api.Var{})
	if s := eval.Store(notSound); s != nil {
		t.Errorf("Store(%s) = %s", brief(notSound), brief(s))
	}
	checkMay(t, notSound, storeOf("0; 0 0; 0"), false)
}

// P17.1: the equality of stores.
func TestSame(t *testing.T) {
	for _, l := range [][][][]int32{
		{nil, {}},
		{{nil}, {{}}, {make([]int32, 0, 5)}},
		{storeOf("1; 2;"), {{1}, {2}, nil}, {{1}, {2}, {}}},
		{storeOf("7; 1 2 3"), storeOf("7; 1 2 3"), storeOf("7; 1 2 3; 9")[:2]},
	} {
		for _, a := range l {
			for _, b := range l {
				checkSame(t, a, b, true)
			}
		}
	}
	different := []string{"", "0", "0;", ";0", ";", ";;", "0; 0", "0 0", "0 0; 0", "0; 0 0", "1; 0", "0; 1", "0 1", "1 0", "-1", "1", "256", "2147483647", "-2147483648", "0; 0; 0", "0;; 0", "0; 0;"}
	for i, a := range different {
		for j, b := range different {
			checkSame(t, storeOf(a), storeOf(b), i == j)
		}
	}
	checkSame(t, [][]int32{{}}, nil, false)
	checkSame(t, [][]int32{nil}, [][]int32{nil, nil}, false)
}

// P17.1: a store with one element, or the length of one list, changed is another one.
func TestOneDifference(t *testing.T) {
	for _, text := range []string{"7; 1 2 3; 0", "5", "1 2 3 4; 5 6 7 8", ";1;"} {
		a := storeOf(text)
		checkSame(t, a, storeOf(text), true)
		for v := range a {
			for i := range a[v] {
				for bit := range 32 {
					b := storeOf(text)
					b[v][i] ^= 1 << bit
					checkSame(t, a, b, false)
				}
			}
			b := storeOf(text)
			b[v] = append(b[v], 0)
			checkSame(t, a, b, false)
			checkSame(t, a, slices.Delete(storeOf(text), v, v+1), false)
			checkSame(t, a, slices.Insert(storeOf(text), v, nil), false)
		}
	}
}

// P17.1: May and Same of random stores are what the chapter says.
func TestRandomStores(t *testing.T) {
	next := random(3)
	stores, same := 0, 0
	for range 20000 {
		k := api.Kernel{}
		for range next(4) {
			k.Vars = append(k.Vars, api.Var{Kind: pick(next, kinds), Dim: next(4)})
			if next(40) == 0 {
				k.Vars[0].Kind, k.Vars[0].Dim = api.TypeKind(next(6)), next(70)-2
			}
		}
		s, other := anyStore(next, k), anyStore(next, k)
		want := mayByRules(k, s)
		stores += one(want)
		same += one(sameByRules(s, other))
		checkMay(t, k, s, want)
		checkSame(t, s, other, sameByRules(s, other))
		if made := eval.Store(k); (made == nil) == soundByRules(k.Vars) || made != nil && !mayByRules(k, made) {
			t.Errorf("Store(%s) = %s", brief(k), brief(made))
		}
	}
	if stores < 5000 || stores > 19000 || same < 1000 {
		t.Error("the stores are too much of one sort:", stores, same)
	}
}
