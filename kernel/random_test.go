package kernel_test

import (
	"fmt"
	"slices"
	"strings"
	"testing"
	"unicode"

	"transputer/api"
	"transputer/kernel"
	"transputer/scope"
	"transputer/syntax"
)

// rows returns the rows of a process.
func (w *writer) rows(l visible, depth int) []string {
	switch {
	case depth <= 0 || w.next(7) == 0:
		return []string{w.leaf(l)}
	case w.next(2) == 0:
		return w.several(l, depth)
	}
	rows, inner := w.spec(l, depth)
	return append(rows, w.rows(inner, depth-w.next(2))...)
}

// locked returns the names without those of a text as targets.
func locked(l visible, s string) visible {
	names := strings.FieldsFunc(s, func(r rune) bool { return !unicode.IsLetter(r) && !unicode.IsDigit(r) && r != '.' })
	l = slices.Clone(l)
	for _, x := range slices.Clone(l) {
		for i := range l {
			if slices.Contains(names, x.name) && l[i].base == x.base && x.base != 0 && isKind(x.t.Kind) {
				l[i].val = true
			}
		}
	}
	return l
}

func (w *writer) newBase() int {
	w.bases++
	return w.bases
}

// spec returns the rows of a specification, and the names in its scope.
func (w *writer) spec(l visible, depth int) ([]string, visible) {
	switch w.next(8) {
	case 0, 1:
		return w.declaration(l, api.Type{Kind: w.kind(), Dim: pick(w.next, []int{0, 0, 0, 1, 3, 4})}, entry{})
	case 2:
		return w.val(l)
	case 3:
		return w.abbreviation(l)
	case 4:
		x, ok := w.some(l, func(x entry) bool { return x.t == api.Type{} && x.formals == nil })
		t := api.Type{Kind: api.TyChan, Dim: pick(w.next, []int{0, 0, 2, 3}), Item: w.kind()}
		proto := api.Proto{L: []api.Variant{{Items: []api.TypeKind{t.Item}}}}
		if ok && w.next(2) == 0 {
			t.Item, t.Proto, proto = api.NoType, x.name, x.proto
		} else {
			x.protoAt = 0
		}
		return w.declaration(l, t, entry{proto: proto, protoAt: x.protoAt})
	case 5:
		return w.protocol(l)
	case 6:
		return w.procedure(l, depth)
	}
	return w.declaration(l, api.Type{Kind: api.TyTimer}, entry{})
}

func (w *writer) declaration(l visible, t api.Type, x entry) ([]string, visible) {
	var names []string
	for range 1 + w.next(2) {
		if name := w.name(); !slices.Contains(names, name) {
			names = append(names, name)
			l = l.with(entry{name: name, t: t, base: w.newBase(), proto: x.proto, protoAt: x.protoAt})
		}
	}
	return []string{typeText(t) + " " + strings.Join(names, ", ") + ":"}, l
}

func (w *writer) val(l visible) ([]string, visible) {
	x := entry{name: w.name(), t: api.Type{Kind: w.kind()}, val: true}
	e := w.expr(x.t.Kind, l, 3)
	if w.next(2) == 0 {
		x.t.Kind, x.number = api.TyInt, true
		e = w.constant(l)
	}
	return []string{"VAL " + typeText(x.t) + " " + x.name + " IS " + e + ":"}, locked(l, e).with(x)
}

func (w *writer) abbreviation(l visible) ([]string, visible) {
	k := w.kind()
	e, x := w.target(k, l)
	if e == "" {
		return w.val(l)
	}
	_, index, _ := strings.Cut(e, "[")
	inner := locked(l, index).without(func(y entry) bool { return y.base == x.base && !y.val || y.name == x.name })
	y := entry{name: w.name(), t: api.Type{Kind: k}, base: x.base}
	return []string{typeText(y.t) + " " + y.name + " IS " + e + ":"}, inner.with(y)
}

func (w *writer) protocol(l visible) ([]string, visible) {
	x := entry{name: w.name(), protoAt: w.newBase()}
	var items []string
	some := func() (kinds []api.TypeKind) {
		items = nil
		for range w.next(4) {
			kinds = append(kinds, w.kind())
			items = append(items, typeText(api.Type{Kind: kinds[len(kinds)-1]}))
		}
		return kinds
	}
	if kinds := some(); len(kinds) > 0 && w.next(2) == 0 {
		x.proto.L = []api.Variant{{Items: kinds}}
		return []string{"PROTOCOL " + x.name + " IS " + strings.Join(items, "; ") + ":"}, l.with(x)
	}
	rows := []string{"PROTOCOL " + x.name, ".CASE"}
	x.proto.Cases = true
	for _, tag := range []string{"tag", "a", "end", "n1", "x.z"}[w.next(3):][:1+w.next(3)] {
		x.proto.L = append(x.proto.L, api.Variant{Tag: tag, Items: some()})
		rows = append(rows, ".."+strings.Join(append([]string{tag}, items...), "; "))
	}
	return append(rows, ":"), l.with(x)
}

func (w *writer) procedure(l visible, depth int) ([]string, visible) {
	x := entry{name: w.name(), formals: []entry{}}
	inner := l
	if w.next(5) > 0 { // what is passed to it must not occur in it
		inner = l.without(func(y entry) bool { return !y.val && y.t.Kind != api.NoType })
	}
	var texts []string
	for range w.next(5) {
		f := entry{name: w.name(), t: api.Type{Kind: w.kind()}, base: w.newBase()}
		if slices.ContainsFunc(x.formals, func(g entry) bool { return g.name == f.name }) {
			continue
		}
		y, ok := w.some(l, func(y entry) bool { return !y.val && y.t.Kind != api.NoType })
		switch w.next(4) {
		case 0, 1:
			if _, hidden := w.some(l, func(z entry) bool { return z.protoAt == y.protoAt && z.t.Kind == api.NoType }); ok && (y.t.Proto == "" || hidden) {
				f.t, f.proto, f.protoAt = y.t, y.proto, y.protoAt
			}
		case 2:
			f.val = true
		}
		text := typeText(f.t) + " " + f.name
		if f.val {
			text = "VAL " + text
		}
		x.formals, texts = append(x.formals, f), append(texts, text)
	}
	for _, f := range x.formals {
		inner = inner.with(f)
	}
	was := w.high
	w.high = true
	body := w.rows(inner, depth-1-w.next(2))
	w.high = was
	rows := append([]string{"PROC " + x.name + "(" + strings.Join(texts, ", ") + ")"}, indented(body, 1)...)
	return append(rows, ":"), l.with(x)
}

// program returns the text of a program.
func (w *writer) program(depth int) string {
	host := entry{t: api.Type{Kind: api.TyChan, Item: api.TyInt}, proto: api.Proto{L: []api.Variant{{Items: []api.TypeKind{api.TyInt}}}}}
	from, to := host, host
	from.name, from.base, to.name, to.base = api.FromHost, hostBase(api.FromHost), api.ToHost, hostBase(api.ToHost)
	l := visible{from, to}
	var rows []string
	for range w.next(6) {
		var more []string
		more, l = w.spec(l, depth)
		rows = append(rows, more...)
	}
	if w.next(5) > 0 {
		return strings.Join(append(rows, w.rows(l, depth)...), "|")
	}
	if !w.errs() {
		l = visible{from, to}
		rows, l = w.declaration(l, api.Type{Kind: api.TyChan, Item: api.TyByte}, entry{proto: api.Proto{L: []api.Variant{{Items: []api.TypeKind{api.TyByte}}}}})
	}
	rows = append(rows, "PLACED PAR")
	first := w.next(8)
	for i := range 1 + w.next(4) {
		n := (first + i*3) % 8
		if w.errs() {
			n = w.next(8)
		}
		rows = append(rows, fmt.Sprint(".PROCESSOR ", n))
		rows = append(rows, indented(w.rows(l, depth-1), 2)...)
	}
	return strings.Join(rows, "|")
}

// somePrograms calls f with many programs.
func somePrograms(seed uint32, n int, f func(p api.Process, next func(int) int)) {
	next := random(seed)
	for range n {
		w := &writer{next: next, errors: pick(next, []int{0, 0, 5, 50, 150, 300})}
		f(proc(w.program(1+next(6))), next)
	}
}

// P16.2, P16.4: Make returns what the chapter's rules say, and a kernel that is valid.
func TestRules(t *testing.T) {
	outcomes := map[api.Errno]int{}
	kinds := map[api.KProcKind]int{}
	placed := 0
	somePrograms(1, 6000, func(p api.Process, next func(int) int) {
		want, e := makeByRules(p)
		k, f := kernel.Make(p)
		outcomes[e]++
		if f != e || !kernel.Same(k, want) {
			t.Errorf("Make(%s): %v, not %v: %.1000s and %.1000s", shown(p), f, e, fmt.Sprint(k), fmt.Sprint(want))
		}
		if e != api.OK {
			return
		}
		if !kernel.May(k) || !mayByRules(k) {
			t.Errorf("Make(%s) is not valid", shown(p))
		}
		for _, q := range allIn(k.Root) {
			kinds[q.Kind]++
		}
		placed += min(1, len(k.Procs))
	})
	if outcomes[api.OK] < 4000 || outcomes[api.ErrConst] < 100 || outcomes[api.ErrKernel] < 200 || outcomes[api.ErrLong] < 50 || placed < 500 {
		t.Error("the programs are too much of one sort:", outcomes, placed)
	}
	for k := api.KpSkip; k < api.KpWait; k++ {
		if kinds[k] < 50 {
			t.Error("too few processes of the kind", k, kinds)
		}
	}
}

// P16.4: renaming the declared names of a program does not change its kernel.
func TestRenaming(t *testing.T) {
	alike := 0
	somePrograms(2, 1500, func(p api.Process, next func(int) int) {
		q, e := scope.Unique(p)
		if e != api.OK {
			return
		}
		want, e := kernel.Make(p)
		k, f := kernel.Make(q)
		if e != f || !kernel.Same(k, want) {
			t.Errorf("Make(%s): %v, but of %s %v", shown(q), f, shown(p), e)
		}
		if other := outerNames(q); scope.Alike(p, other) && !syntax.Same(q, other) {
			k, f = kernel.Make(other)
			if e != f || !kernel.Same(k, want) {
				t.Errorf("Make(%s): %v, but of %s %v", shown(other), f, shown(p), e)
			}
			alike++
		}
	})
	if alike < 300 {
		t.Error("too few programs:", alike)
	}
}

// outerNames returns a process in which the names of the outer declarations, one for each, are others.
func outerNames(p api.Process) api.Process {
	l, e := syntax.Print(p)
	if e != api.OK {
		return p
	}
	for i := range l {
		words := strings.FieldsFunc(l[i].Text, func(r rune) bool { return !unicode.IsLetter(r) && !unicode.IsDigit(r) && r != '.' })
		for _, word := range words {
			if strings.HasPrefix(word, "n") && strings.Trim(word[1:], "0123456789") == "" && len(word) > 2 {
				l[i].Text = strings.ReplaceAll(l[i].Text, word, "z"+word[1:])
			}
		}
	}
	q, _, e := syntax.Parse(l)
	if e != api.OK {
		return p
	}
	return q
}

// P16.3, P16.4: a kernel can be read from its text, so that different kernels have different texts.
func TestTexts(t *testing.T) {
	read := 0
	check := func(k api.Kernel) {
		s := textOf(t, k)
		if got := readText(s); !kernel.Same(got, k) {
			t.Errorf("%.500s is the text of %.500s", s, fmt.Sprint(k))
		}
		read++
	}
	somePrograms(3, 1500, func(p api.Process, next func(int) int) {
		if k, e := kernel.Make(p); e == api.OK {
			check(k)
		}
	})
	for _, k := range samples() {
		check(k)
		eachChange(k, func(changed api.Kernel) {
			if mayByRules(changed) {
				check(changed)
			}
		})
	}
	if read < 1000 {
		t.Error(read)
	}
}

// P16.1: kernels of programs with one of their fields changed are valid as the chapter's rules say.
func TestChangedKernels(t *testing.T) {
	valid, not := 0, 0
	somePrograms(4, 300, func(p api.Process, next func(int) int) {
		k, e := kernel.Make(p)
		if e != api.OK || kernel.Size(k.Root) > 30 {
			return
		}
		rest := next(80)
		eachChange(k, func(changed api.Kernel) {
			rest++
			if rest%80 != 0 {
				return
			}
			want := mayByRules(changed)
			if kernel.May(changed) != want {
				t.Errorf("May(%.1000s) is not %t", fmt.Sprint(changed), want)
			}
			if kernel.Same(k, changed) {
				t.Errorf("%.1000s is the same", fmt.Sprint(changed))
			}
			if want {
				valid++
			} else {
				not++
			}
		})
	})
	if valid < 200 || not < 2000 {
		t.Error(valid, not)
	}
}
