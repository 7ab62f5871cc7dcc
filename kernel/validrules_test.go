package kernel_test

import (
	"reflect"
	"slices"

	"transputer/api"
)

// What a valid kernel is, once more, as the chapter's tables say it.

var values = []api.TypeKind{api.TyInt, api.TyByte, api.TyBool}

func isKind(k api.TypeKind) bool { return slices.Contains(values, k) }

func exprSize(x api.KExpr) int {
	n := 1
	for _, y := range x.L {
		n += exprSize(y)
	}
	return n
}

func exprDepth(x api.KExpr) int {
	n := 0
	for _, y := range x.L {
		n = max(n, exprDepth(y))
	}
	return n + 1
}

// hasFields tells whether the expressions in x have the fields of their kinds alone.
func hasFields(x api.KExpr) bool {
	kept, parts := api.KExpr{Kind: x.Kind}, 1
	switch x.Kind {
	case api.KxNumber:
		kept.N, parts = x.N, 0
	case api.KxVar:
		kept.V, parts = x.V, 0
	case api.KxElem:
		kept.V = x.V
	case api.KxMonadic:
		kept.Oper = x.Oper
	case api.KxDyadic:
		kept.Oper, parts = x.Oper, 2
	case api.KxConvert:
		kept.To = x.To
	default:
		return false
	}
	alone := x
	alone.L = nil
	ok := len(x.L) == parts && reflect.DeepEqual(alone, kept) && 0 <= x.V && x.V < api.MaxVars
	ok = ok && (x.Kind != api.KxMonadic || api.OperNeg <= x.Oper && x.Oper <= api.OperNot) && (x.Kind != api.KxDyadic || api.OperAdd <= x.Oper && x.Oper <= api.OperAfter)
	ok = ok && (x.Kind != api.KxConvert || isKind(x.To))
	return ok && !slices.ContainsFunc(x.L, func(y api.KExpr) bool { return !hasFields(y) })
}

// rules are those for the variables and the channels of a kernel.
type rules struct {
	vars  []api.Var
	chans int
}

func (r rules) suits(x api.KExpr, k api.TypeKind) bool {
	all := func(kinds ...api.TypeKind) bool { // whether all operands fit one of these kinds
		return slices.ContainsFunc(kinds, func(k api.TypeKind) bool {
			return !slices.ContainsFunc(x.L, func(y api.KExpr) bool { return !r.suits(y, k) })
		})
	}
	const integer, char, truth = api.TyInt, api.TyByte, api.TyBool
	switch x.Kind {
	case api.KxNumber:
		return k == integer || k == char && 0 <= x.N && x.N <= 255 || k == truth && (x.N == 0 || x.N == 1)
	case api.KxVar:
		return x.V < len(r.vars) && r.vars[x.V].Kind == k && r.vars[x.V].Dim == 0
	case api.KxElem:
		return x.V < len(r.vars) && r.vars[x.V].Kind == k && r.vars[x.V].Dim > 0 && all(integer)
	case api.KxConvert:
		return x.To == k && all(values...)
	}
	switch o := x.Oper; {
	case o <= api.OperShr, o == api.OperNeg, o == api.OperModNeg, o == api.OperBitNot:
		return k == integer && all(integer)
	case o == api.OperEq, o == api.OperNe:
		return k == truth && all(integer, char, truth)
	case o <= api.OperGe:
		return k == truth && all(integer, char)
	case o == api.OperAfter:
		return k == truth && all(integer)
	}
	return k == truth && all(truth)
}

// fits tells whether x is a valid expression that fits a kind.
func (r rules) fits(x api.KExpr, k api.TypeKind) bool {
	return exprSize(x) <= api.MaxExpr && exprDepth(x) <= api.MaxDepth && hasFields(x) && isKind(k) && r.suits(x, k)
}

func (r rules) place(x api.KPlace, k api.TypeKind) bool {
	if x.V < 0 || x.V >= len(r.vars) || r.vars[x.V].Kind != k {
		return false
	}
	if r.vars[x.V].Dim == 0 {
		return len(x.Index) == 0
	}
	return len(x.Index) == 1 && r.fits(x.Index[0], api.TyInt)
}

// message tells whether a channel other than that one exists, and has items of a kind.
func (r rules) message(c, not int, item api.TypeKind) bool {
	return 0 <= c && c < r.chans && c != not && isKind(item) && (c >= 2 || item == api.TyInt)
}

// fieldsOf returns the fields of a process that those of its kind have, and whether they are as the table says.
func (r rules) fieldsOf(p api.KProc) (kept api.KProc, ok bool) {
	kept.Kind = p.Kind
	switch p.Kind {
	case api.KpSkip, api.KpStop:
		ok = true
	case api.KpClear:
		kept.V, ok = p.V, 0 <= p.V && p.V < len(r.vars)
	case api.KpAssign:
		kept.To, kept.E, ok = p.To, p.E, len(p.To) == len(p.E) && 1 <= len(p.E) && len(p.E) <= 8
		for i := 0; ok && i < len(p.E); i++ {
			ok = slices.ContainsFunc(values, func(k api.TypeKind) bool { return r.place(p.To[i], k) && r.fits(p.E[i], k) })
		}
	case api.KpIn:
		kept.C, kept.Item, kept.To, ok = p.C, p.Item, p.To, len(p.To) == 1 && r.message(p.C, 1, p.Item) && r.place(p.To[0], p.Item)
	case api.KpOut:
		kept.C, kept.Item, kept.E, ok = p.C, p.Item, p.E, len(p.E) == 1 && r.message(p.C, 0, p.Item) && r.fits(p.E[0], p.Item)
	case api.KpTime:
		kept.To, ok = p.To, len(p.To) == 1 && r.place(p.To[0], api.TyInt)
	case api.KpAfter:
		kept.E, ok = p.E, len(p.E) == 1 && r.fits(p.E[0], api.TyInt)
	case api.KpSeq:
		kept.L, ok = p.L, true
	case api.KpPar:
		kept.L, ok = p.L, len(p.L) <= 16
	case api.KpPriPar:
		kept.L, ok = p.L, len(p.L) == 2
	case api.KpIf, api.KpAlt, api.KpPriAlt:
		kept.Guards, ok = p.Guards, len(p.Guards) <= 16
	case api.KpWhile:
		kept.E, kept.L, ok = p.E, p.L, len(p.E) == 1 && len(p.L) == 1 && r.fits(p.E[0], api.TyBool)
	}
	return kept, ok
}

func (r rules) guard(g api.KGuard, choice api.KProcKind) bool {
	if len(g.Body) != 1 || !r.fits(g.Cond, api.TyBool) || (choice == api.KpIf) != (g.Kind == api.GuIf) {
		return false
	}
	kept := api.KGuard{Kind: g.Kind, Cond: g.Cond, Body: g.Body}
	ok := true
	switch g.Kind {
	case api.GuIf, api.GuSkip:
	case api.GuInput:
		kept.C, kept.Item, kept.To, ok = g.C, g.Item, g.To, r.message(g.C, 1, g.Item) && r.place(g.To, g.Item)
	case api.GuAfter:
		kept.Time, ok = g.Time, r.fits(g.Time, api.TyInt)
	default:
		return false
	}
	return ok && equal(kept, g)
}

func (r rules) process(p api.KProc) bool {
	kept, ok := r.fieldsOf(p)
	if !ok || !equal(kept, p) {
		return false
	}
	if slices.ContainsFunc(p.Guards, func(g api.KGuard) bool { return !r.guard(g, p.Kind) }) {
		return false
	}
	if p.Kind == api.KpPriPar && slices.ContainsFunc(allIn(p.L[0]), func(q api.KProc) bool { return q.Kind == api.KpPriPar }) {
		return false
	}
	return !slices.ContainsFunc(innerOf(p), func(q api.KProc) bool { return !r.process(q) })
}

// innerOf returns the processes that are parts of p.
func innerOf(p api.KProc) []api.KProc {
	l := slices.Clone(p.L)
	for _, g := range p.Guards {
		l = append(l, g.Body...)
	}
	return l
}

// allIn returns p and all processes in it.
func allIn(p api.KProc) []api.KProc {
	l := []api.KProc{p}
	for _, q := range innerOf(p) {
		l = append(l, allIn(q)...)
	}
	return l
}

func procDepth(p api.KProc) int {
	n := 0
	for _, q := range innerOf(p) {
		n = max(n, procDepth(q))
	}
	return n + 1
}

// mayByRules returns what May returns.
func mayByRules(k api.Kernel) bool {
	if len(k.Vars) > 256 || slices.ContainsFunc(k.Vars, func(v api.Var) bool { return !isKind(v.Kind) || v.Dim < 0 || v.Dim > 64 }) {
		return false
	}
	if len(k.Chans) < 2 || len(k.Chans) > 64 || k.Chans[0] != api.HostIn || k.Chans[1] != api.HostOut || slices.ContainsFunc(k.Chans[2:], func(c api.HostKind) bool { return c != api.Inside }) {
		return false
	}
	numbers := map[int]bool{}
	for _, n := range k.Procs {
		numbers[n] = 0 <= n && n <= 7
	}
	if len(k.Procs) > 0 && (k.Root.Kind != api.KpPar || len(k.Root.L) != len(k.Procs) || len(numbers) != len(k.Procs)) {
		return false
	}
	for _, ok := range numbers {
		if !ok {
			return false
		}
	}
	return len(allIn(k.Root)) <= 2048 && procDepth(k.Root) <= 32 && rules{k.Vars, len(k.Chans)}.process(k.Root)
}

// equal tells whether two values are equal in all fields, where nil and empty slices are.
func equal(a, b any) bool {
	return reflect.DeepEqual(plain(reflect.ValueOf(a)).Interface(), plain(reflect.ValueOf(b)).Interface())
}

// plain returns a copy of a value in which no slice is empty without being nil.
func plain(v reflect.Value) reflect.Value {
	r := reflect.New(v.Type()).Elem()
	r.Set(v)
	switch v.Kind() {
	case reflect.Struct:
		for i := range v.NumField() {
			r.Field(i).Set(plain(v.Field(i)))
		}
	case reflect.Slice:
		r.SetZero()
		if v.Len() > 0 {
			r.Set(reflect.MakeSlice(v.Type(), v.Len(), v.Len()))
		}
		for i := range v.Len() {
			r.Index(i).Set(plain(v.Index(i)))
		}
	}
	return r
}
