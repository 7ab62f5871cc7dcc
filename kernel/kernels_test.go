package kernel_test

import (
	"fmt"
	"slices"
	"testing"

	"transputer/api"
	"transputer/kernel"
)

func checkKernel(t *testing.T, k api.Kernel, want bool) {
	t.Helper()
	if kernel.May(k) != want {
		t.Errorf("May(%.300s) = %t", fmt.Sprint(k), !want)
	}
	if s, e := kernel.Text(k); (e == api.OK) != want || !want && (s != "" || e != api.ErrArg) {
		t.Errorf("Text(%.300s) = %.300q, %v", fmt.Sprint(k), s, e)
	}
}

// P16.1, P16.3: the variables of a kernel.
func TestVars(t *testing.T) {
	integer := api.Var{Kind: api.TyInt}
	for _, n := range []int{0, 1, 255, 256} {
		k := kernelOf("", 2, "skip")
		k.Vars = slices.Repeat([]api.Var{integer}, n)
		checkKernel(t, k, true)
		k.Root = kproc(fmt.Sprintf("clear v%d", n-1))
		checkKernel(t, k, n > 0)
		k.Root = kproc(fmt.Sprintf("clear v%d", n))
		checkKernel(t, k, false)
	}
	k := kernelOf("", 2, "skip")
	k.Vars = slices.Repeat([]api.Var{integer}, 257)
	checkKernel(t, k, false)
	for _, kind := range []api.TypeKind{api.TyInt, api.TyByte, api.TyBool} {
		for dim, want := range map[int]bool{0: true, 1: true, 2: true, 63: true, 64: true, 65: false, -1: false, -64: false, 1 << 32: false, -1 << 63: false, 1<<63 - 1: false} {
			k.Vars = []api.Var{integer, {Kind: kind, Dim: dim}, integer}
			checkKernel(t, k, want)
		}
	}
	for n := range 256 {
		k.Vars = []api.Var{integer, {Kind: api.TypeKind(n)}}
		checkKernel(t, k, 1 <= n && n <= 3)
		k.Vars[1].Dim = 4
		checkKernel(t, k, 1 <= n && n <= 3)
	}
}

// P16.1, P16.3: the channels of a kernel.
func TestChans(t *testing.T) {
	in, out, inner := api.HostIn, api.HostOut, api.Inside
	for n := range 70 {
		checkKernel(t, kernelOf("", n, "skip"), 2 <= n && n <= 64)
		checkKernel(t, kernelOf("", n, fmt.Sprintf("c%d ! BYTE 1", n-1)), 3 <= n && n <= 64)
		checkKernel(t, kernelOf("", n, fmt.Sprintf("c%d ! BYTE 1", n)), false)
	}
	for _, l := range [][]api.HostKind{{out, in}, {in, in}, {out, out}, {inner, inner}, {in, inner}, {inner, out}, {in, out, in}, {in, out, out}, {in, out, inner, in}, {in, out, inner, 3}, {in, out, 255}, {in, inner, out}, {inner, in, out}, {in}, {}, nil} {
		k := kernelOf("", 2, "skip")
		k.Chans = l
		checkKernel(t, k, false)
	}
}

// P16.1, P16.3: the processors of a kernel.
func TestNodes(t *testing.T) {
	for _, c := range []struct {
		root  string
		procs []int
		want  bool
	}{
		{"par|.skip", []int{0}, true}, {"par|.skip", []int{7}, true}, {"par|.skip", []int{8}, false}, {"par|.skip", []int{-1}, false}, {"par|.skip", nil, true}, {"par|.skip", []int{}, true}, {"par|.skip", []int{0, 1}, false},
		{"par", nil, true}, {"par", []int{0}, false}, {"par|.skip|.stop", []int{3, 2}, true}, {"par|.skip|.stop", []int{3, 3}, false}, {"par|.skip|.stop", []int{3}, false}, {"par|.skip|.stop", []int{0, 1, 2}, false},
		{"skip", []int{0}, false}, {"seq|.skip", []int{0}, false}, {"seq|.par|..skip", []int{0}, false}, {"pri par|.skip|.stop", []int{0, 1}, false}, {"if|.1|..skip", []int{0}, false}, {"skip", nil, true},
		{"par|.skip|.skip|.skip|.skip|.skip|.skip|.skip|.skip", []int{7, 6, 5, 4, 3, 2, 1, 0}, true}, {"par|.skip|.skip|.skip|.skip|.skip|.skip|.skip|.skip", []int{7, 6, 5, 4, 3, 2, 1, 7}, false}, {"par|.skip|.skip|.skip|.skip|.skip|.skip|.skip|.skip", []int{0, 1, 2, 3, 4, 5, 6, 8}, false},
		{"par|.skip|.skip|.skip|.skip|.skip|.skip|.skip|.skip|.skip", []int{0, 1, 2, 3, 4, 5, 6, 7, 8}, false}, {"par|.skip|.stop|.stop", []int{1, 2, 1}, false}, {"par|.skip|.skip", []int{1 << 40, 0}, false},
	} {
		k := kernelOf("", 2, c.root)
		k.Procs = c.procs
		checkKernel(t, k, c.want)
	}
}

// samples are kernels with all kinds of processes, guards and expressions.
func samples() []api.Kernel {
	placed := kernelOf("INT", 3, "par|.seq|..clear v0|..c2 ? INT v0|.c2 ! INT 7")
	placed.Procs = []int{2, 0}
	return []api.Kernel{
		kernelOf(someVars, 4, "seq|.clear v3|.v0, v3[v0 + 1], v1 := - v0, INT v1, 255|.c0 ? INT v0|.c2 ! BYTE v4[v0]|.time v3[0]|.after v0 PLUS 5|.skip|.stop"),
		kernelOf(someVars, 4, "pri par|.par|..c3 ! BOOL v2|..while v0 > 0|...v0 := v0 MINUS 1|.seq|..if|...(v0 = 1) OR (NOT v2)|....stop|...1|....skip|..if"),
		kernelOf(someVars, 4, "alt|.1 & skip|..par|.v2 & c2 ? BYTE v4[1]|..seq|.v1 = v4[2] & after v0 * 2|..skip"),
		kernelOf("INT [2]BOOL", 2, "pri alt|.1 & c0 ? INT v0|..c1 ! INT INT v1[0]|.v1[v0] & skip|..v1[1] := BOOL (v0 / 2)"),
		placed,
		kernelOf("", 2, "skip"),
		kernelOf("[64]INT [1]BYTE", 64, "c63 ? BYTE v1[v0[v0[1]]]"),
	}
}

// P16.1, P16.3: valid kernels, and what becomes of them when any of their fields is changed.
func TestChanges(t *testing.T) {
	valid, not := 0, 0
	for _, k := range samples() {
		checkKernel(t, k, true)
		eachChange(k, func(changed api.Kernel) {
			want := mayByRules(changed)
			checkKernel(t, changed, want)
			if want {
				valid++
			} else {
				not++
			}
		})
	}
	if valid < 400 || not < 5000 {
		t.Error(valid, not)
	}
}
