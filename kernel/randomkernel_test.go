package kernel_test

import (
	"fmt"
	"testing"

	"transputer/api"
	"transputer/kernel"
)

// builder builds random kernels that are valid, unless, so many times in a thousand, something else stands in them.
type builder struct {
	next   func(int) int
	errors int
	k      api.Kernel
}

func (b *builder) errs() bool { return b.next(1000) < b.errors }

func (b *builder) kind() api.TypeKind {
	if b.errs() {
		return api.TypeKind(b.next(6))
	}
	return pick(b.next, values)
}

// variable returns a variable of a kind.
func (b *builder) variable(k api.TypeKind) int {
	for range 50 {
		if v := b.next(len(b.k.Vars)); b.k.Vars[v].Kind == k && !b.errs() {
			return v
		}
	}
	return b.next(len(b.k.Vars) + 2)
}

func (b *builder) place(k api.TypeKind, depth int) api.KPlace {
	v := b.variable(k)
	if v < len(b.k.Vars) && (b.k.Vars[v].Dim > 0) != b.errs() {
		return api.KPlace{V: v, Index: []api.KExpr{b.expr(api.TyInt, depth-1)}}
	}
	return api.KPlace{V: v}
}

func (b *builder) expr(k api.TypeKind, depth int) api.KExpr {
	if b.errs() {
		k = b.kind()
	}
	if depth > 0 {
		switch b.next(4) {
		case 0:
			return api.KExpr{Kind: api.KxConvert, To: k, L: []api.KExpr{b.expr(b.kind(), depth-1)}}
		case 1, 2:
			if k != api.TyByte {
				return b.operation(k, depth)
			}
		}
	}
	if depth >= 0 && b.next(3) > 0 {
		x := b.place(k, depth)
		if len(x.Index) > 0 {
			return api.KExpr{Kind: api.KxElem, V: x.V, L: x.Index}
		}
		return api.KExpr{Kind: api.KxVar, V: x.V}
	}
	n := map[api.TypeKind]int32{api.TyInt: int32(b.next(1<<20)*4096 - 1<<31), api.TyByte: int32(b.next(256)), api.TyBool: int32(b.next(2))}[k]
	if b.errs() {
		n += int32(b.next(400) - 200)
	}
	return api.KExpr{Kind: api.KxNumber, N: n}
}

func (b *builder) operation(k api.TypeKind, depth int) api.KExpr {
	o := api.OperAdd + api.Operator(b.next(int(api.OperNot)))
	of := api.TyInt
	switch {
	case o == api.OperEq || o == api.OperNe:
		of = b.kind()
	case o > api.OperNe && o <= api.OperGe && b.next(2) == 0:
		of = api.TyByte
	case o == api.OperAnd || o == api.OperOr || o == api.OperNot:
		of = api.TyBool
	}
	truth := o >= api.OperEq && o <= api.OperAfter || o == api.OperNot
	if truth != (k == api.TyBool) && !b.errs() {
		return b.operation(k, depth)
	}
	if o >= api.OperNeg {
		return unary(o, b.expr(of, depth-1))
	}
	return binary(o, b.expr(of, depth-1), b.expr(of, depth-1))
}

// channel returns a channel, one of those between the processes if its items are of another kind than TyInt, and a kind.
func (b *builder) channel(not int) (int, api.TypeKind) {
	c, k := b.next(len(b.k.Chans)), b.kind()
	if (c == not || c < 2 && k != api.TyInt) && !b.errs() {
		return b.channel(not)
	}
	return c, k
}

func (b *builder) guard(choice api.KProcKind, depth int) api.KGuard {
	g := api.KGuard{Kind: api.GuIf, Cond: b.expr(api.TyBool, 3)}
	if (choice != api.KpIf) != b.errs() {
		g.Kind = api.GuSkip + api.GuardKind(b.next(3))
	}
	switch g.Kind {
	case api.GuInput:
		g.C, g.Item = b.channel(1)
		g.To = b.place(g.Item, 2)
	case api.GuAfter:
		g.Time = b.expr(api.TyInt, 3)
	}
	g.Body = b.procs(1, depth-1)
	return g
}

func (b *builder) procs(n, depth int) (l []api.KProc) {
	if b.errs() {
		n = b.next(4)
	}
	for range n {
		l = append(l, b.proc(depth))
	}
	return l
}

func (b *builder) proc(depth int) api.KProc {
	p := api.KProc{Kind: api.KpSkip + api.KProcKind(b.next(15))}
	if depth <= 0 && p.Kind >= api.KpSeq {
		p.Kind -= 8
	}
	if b.errs() {
		p.Kind = api.KProcKind(b.next(18))
	}
	switch p.Kind {
	case api.KpClear:
		p.V = b.variable(b.kind())
	case api.KpAssign:
		for range 1 + b.next(3) {
			k := b.kind()
			p.To, p.E = append(p.To, b.place(k, 2)), append(p.E, b.expr(k, 4))
		}
	case api.KpIn:
		p.C, p.Item = b.channel(1)
		p.To = []api.KPlace{b.place(p.Item, 2)}
	case api.KpOut:
		p.C, p.Item = b.channel(0)
		p.E = []api.KExpr{b.expr(p.Item, 4)}
	case api.KpTime:
		p.To = []api.KPlace{b.place(api.TyInt, 2)}
	case api.KpAfter:
		p.E = []api.KExpr{b.expr(api.TyInt, 4)}
	case api.KpSeq, api.KpPar:
		p.L = b.procs(b.next(4), depth-1)
	case api.KpPriPar:
		p.L = b.procs(2, depth-2)
	case api.KpWhile:
		p.E, p.L = []api.KExpr{b.expr(api.TyBool, 4)}, b.procs(1, depth-1)
	case api.KpIf, api.KpAlt, api.KpPriAlt:
		for range b.next(4) {
			p.Guards = append(p.Guards, b.guard(p.Kind, depth))
		}
	}
	return p
}

// someKernels calls f with many kernels.
func someKernels(seed uint32, n int, f func(k api.Kernel)) {
	next := random(seed)
	for range n {
		b := &builder{next: next, errors: pick(next, []int{0, 5, 30, 80})}
		b.k = kernelOf(someVars, 2+next(4), "skip")
		for range next(4) {
			b.k.Vars = append(b.k.Vars, api.Var{Kind: b.kind(), Dim: next(3)})
		}
		b.k.Root = b.proc(2 + next(4))
		if b.k.Root.Kind == api.KpPar && next(2) == 0 {
			for i := range b.k.Root.L {
				b.k.Procs = append(b.k.Procs, (next(7)+i)%8)
			}
		}
		f(b.k)
	}
}

// P16.1, P16.3, P16.4: May of random kernels is what the chapter's rules say, and those that are valid can be read from their texts.
func TestRandomKernels(t *testing.T) {
	valid, not := 0, 0
	texts := map[string]api.Kernel{}
	someKernels(5, 10000, func(k api.Kernel) {
		want := mayByRules(k)
		checkKernel(t, k, want)
		checkSize(t, k.Root, len(allIn(k.Root)))
		if !want {
			not++
			return
		}
		valid++
		s := textOf(t, k)
		if got := readText(s); !kernel.Same(got, k) {
			t.Errorf("%.500s is the text of %.500s", s, fmt.Sprint(k))
		}
		if same, ok := texts[s]; ok && !kernel.Same(same, k) {
			t.Errorf("%.500s is the text of %.500s and %.500s", s, fmt.Sprint(k), fmt.Sprint(same))
		}
		texts[s] = k
	})
	if valid < 4000 || not < 1500 {
		t.Error("the kernels are too much of one sort:", valid, not)
	}
}
