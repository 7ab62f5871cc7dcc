package types_test

import (
	"fmt"
	"regexp"
	"slices"
	"testing"

	"transputer/api"
	"transputer/types"
)

func variant(tag string, items ...api.TypeKind) api.Variant {
	return api.Variant{Tag: tag, Items: items}
}

func plain(l ...api.Variant) api.Proto { return api.Proto{L: l} }

func cases(l ...api.Variant) api.Proto { return api.Proto{Cases: true, L: l} }

func items(n int) []api.TypeKind { return slices.Repeat([]api.TypeKind{api.TyInt}, n) }

// tagged returns n variants, the one of index i with i modulo 9 items.
func tagged(n int) (l []api.Variant) {
	for i := range n {
		l = append(l, variant(fmt.Sprint("t", i), items(i%9)...))
	}
	return l
}

// with returns l with another variant at an index.
func with(l []api.Variant, at int, v api.Variant) []api.Variant {
	l = slices.Clone(l)
	l[at] = v
	return l
}

// nameForm is what layer 8 says of a name, reserved words aside.
var nameForm = regexp.MustCompile(`\A[A-Za-z][A-Za-z0-9.]{0,31}\z`)

// mayByRules reports whether a protocol exists, as the chapter says.
func mayByRules(p api.Proto) bool {
	least, variants := 1, 1
	if p.Cases {
		least, variants = 0, 16
	}
	if len(p.L) < 1 || len(p.L) > variants {
		return false
	}
	tags := map[string]bool{}
	for _, v := range p.L {
		named := nameForm.MatchString(v.Tag) && !slices.Contains(reserved, v.Tag)
		if named != p.Cases || !p.Cases && v.Tag != "" || len(v.Items) < least || len(v.Items) > 8 {
			return false
		}
		for _, k := range v.Items {
			if !slices.Contains(primitive, k) {
				return false
			}
		}
		tags[v.Tag] = true
	}
	return len(tags) == len(p.L)
}

// protocols are of all the forms that the chapter tells apart.
func protocols() []api.Proto {
	l := []api.Proto{
		{}, {Cases: true}, {L: []api.Variant{}}, {Cases: true, L: []api.Variant{}},
		plain(variant("")),
		plain(variant("", items(1)...)),
		plain(variant("", api.TyInt, api.TyByte, api.TyBool)),
		plain(variant("", items(8)...)),
		plain(variant("", items(9)...)),
		plain(variant("", items(1<<16)...)),
		plain(variant("p", items(1)...)),
		plain(variant("p")),
		plain(variant("", items(1)...), variant("", items(1)...)),
		plain(variant("", items(1)...), variant("p", items(1)...)),
		plain(variant("p", items(1)...), variant("", items(1)...)),
		plain(tagged(2)...),
		cases(variant("p")), cases(variant("p", items(1)...)), cases(variant("p", items(8)...)), cases(variant("p", items(9)...)),
		cases(variant("")), cases(variant("", items(1)...)),
		cases(variant("p", items(1)...), variant("")), cases(variant(""), variant("p")),
		cases(tagged(2)...), cases(tagged(15)...), cases(tagged(16)...), cases(tagged(17)...), cases(tagged(1000)...),
		cases(slices.Repeat([]api.Variant{variant("p")}, 1<<16)...),
		cases(variant("p"), variant("p")), cases(variant("p"), variant("P")),
		cases(variant("p"), variant("q"), variant("q")),
		cases(with(tagged(16), 15, variant("t0"))...), cases(with(tagged(16), 0, variant("t15"))...),
		cases(with(tagged(16), 8, variant("t7"))...), cases(with(tagged(3), 0, variant("t2"))...),
		cases(with(tagged(16), 15, variant("t14", items(7)...))...),
		cases(with(tagged(16), 15, variant("p", items(9)...))...), cases(with(tagged(16), 0, variant("p", items(9)...))...),
	}
	for _, s := range slices.Concat(names, noNames) {
		l = append(l, cases(variant(s)), plain(variant(s, items(1)...)), cases(with(tagged(16), 15, variant(s, items(1)...))...), cases(with(tagged(16), 0, variant(s))...))
	}
	for _, k := range kinds {
		for _, n := range []int{0, 1, 7} {
			before, behind := items(n), items(7-n)
			l = append(l, plain(variant("", k)), cases(variant("p", k)), plain(variant("", slices.Concat(before, []api.TypeKind{k}, behind)...)))
			l = append(l, cases(with(tagged(16), 0, variant("p", slices.Concat(before, []api.TypeKind{k}, behind)...))...))
			l = append(l, cases(with(tagged(16), 15, variant("p", slices.Concat(before, []api.TypeKind{k})...))...))
		}
	}
	return l
}

// randomProtocol returns one with short lists, which often has one fault, and often has none.
func randomProtocol(next func(int) int) api.Proto {
	p := api.Proto{Cases: next(4) > 0}
	for range 1 + next(3)*next(2) + next(16)*next(2) {
		tag := fmt.Sprint("t", next(100))
		if next(30) == 0 || !p.Cases && next(6) > 0 {
			tag = []string{"", "IF", "9", "p"}[next(4)*next(2)]
		}
		v := variant(tag)
		for range next(9) + next(20)/19 {
			k := primitive[next(3)]
			if next(100) == 0 {
				k = kinds[next(len(kinds))]
			}
			v.Items = append(v.Items, k)
		}
		p.L = append(p.L, v)
	}
	return p
}

func cloned(p api.Proto) api.Proto {
	p.L = slices.Clone(p.L)
	for i := range p.L {
		p.L[i].Items = slices.Clone(p.L[i].Items)
	}
	return p
}

func equal(a, b api.Proto) bool {
	return a.Cases == b.Cases && slices.EqualFunc(a.L, b.L, func(x, y api.Variant) bool { return x.Tag == y.Tag && slices.Equal(x.Items, y.Items) })
}

// checkFind checks Find of a protocol for a tag against the index that the variant has, or -1.
func checkFind(t *testing.T, p api.Proto, tag string, want int) {
	t.Helper()
	l, n, ok := types.Find(p, tag)
	if want < 0 {
		if len(l) != 0 || n != 0 || ok {
			t.Errorf("Find(%s, %s) = %v, %d, %t, want none", brief(p), brief(tag), l, n, ok)
		}
		return
	}
	if !slices.Equal(l, p.L[want].Items) || n != want || !ok {
		t.Errorf("Find(%s, %s) = %v, %d, %t, want %v, %d", brief(p), brief(tag), l, n, ok, p.L[want].Items, want)
	}
}

// checkProtocol checks all that the chapter says of a protocol.
func checkProtocol(t *testing.T, p api.Proto) {
	t.Helper()
	was, may := cloned(p), mayByRules(p)
	if got := types.MayProto(p); got != may {
		t.Errorf("MayProto(%s) = %t", brief(p), got)
	}
	for i, v := range p.L[:min(len(p.L), 20)] {
		if !may {
			i = -1
		}
		checkFind(t, p, v.Tag, i)
		checkFind(t, p, v.Tag+"0000", -1)
	}
	for _, tag := range []string{"", "zz", "t", "T0", "IF", tooLong, huge, "t0 "} {
		at := slices.IndexFunc(p.L, func(v api.Variant) bool { return v.Tag == tag })
		if !may {
			at = -1
		}
		checkFind(t, p, tag, at)
	}
	if !equal(p, was) {
		t.Errorf("%s has changed to %s", brief(was), brief(p))
	}
}

// P9.1, P9.5: exactly the protocols of the chapter exist, and each variant is found by its tag.
func TestProtocols(t *testing.T) {
	for _, p := range protocols() {
		checkProtocol(t, p)
	}
}

// P9.1, P9.5: the same of many protocols without a pattern.
func TestRandomProtocols(t *testing.T) {
	next := random(9)
	exist := 0
	for range 20000 {
		p := randomProtocol(next)
		checkProtocol(t, p)
		if mayByRules(p) {
			exist++
		}
	}
	if exist < 4000 || exist > 16000 {
		t.Errorf("%d of the protocols exist: too few or too many to test anything", exist)
	}
}

// P9.1: the edges of the chapter, one by one.
func TestProtocolTable(t *testing.T) {
	for i, c := range []struct {
		p    api.Proto
		want bool
	}{
		{api.Proto{}, false},
		{plain(variant("")), false},
		{plain(variant("", api.TyInt)), true},
		{plain(variant("", items(8)...)), true},
		{plain(variant("", items(9)...)), false},
		{plain(variant("", api.TyInt), variant("", api.TyInt)), false},
		{plain(variant("p", api.TyInt)), false},
		{plain(variant("", api.TyChan)), false},
		{plain(variant("", api.TyInt, api.TyTimer)), false},
		{plain(variant("", api.NoType)), false},
		{cases(), false},
		{cases(variant("p")), true},
		{cases(variant("p", items(8)...)), true},
		{cases(variant("p", items(9)...)), false},
		{cases(tagged(16)...), true},
		{cases(tagged(17)...), false},
		{cases(variant("", api.TyInt)), false},
		{cases(variant("1")), false},
		{cases(variant("STOP")), false},
		{cases(variant("stop")), true},
		{cases(variant("p"), variant("p")), false},
		{cases(variant("p"), variant("q"), variant("p")), false},
		{cases(variant("p", api.TyTimer), variant("q")), false},
		{cases(variant("p"), variant("q", api.TyByte, 6)), false},
		{cases(variant("p", api.TyBool), variant("q", api.TyByte)), true},
	} {
		if got := types.MayProto(c.p); got != c.want {
			t.Errorf("%d: MayProto(%s) = %t", i, brief(c.p), got)
		}
	}
}

// P9.5: the chapter's example, and the edges of Find.
func TestFindTable(t *testing.T) {
	p := cases(variant("put", api.TyInt), variant("stop"), variant("get", api.TyByte, api.TyBool))
	checkFind(t, p, "put", 0)
	checkFind(t, p, "stop", 1)
	checkFind(t, p, "get", 2)
	checkFind(t, p, "", -1)
	checkFind(t, p, "pu", -1)
	checkFind(t, p, "puts", -1)
	checkFind(t, p, "PUT", -1)
	q := plain(variant("", api.TyInt, api.TyByte))
	checkFind(t, q, "", 0)
	checkFind(t, q, "put", -1)
	checkFind(t, cases(variant("put", api.TyInt), variant("put")), "put", -1)
	checkFind(t, cases(variant("put", api.TyInt), variant("")), "put", -1)
	checkFind(t, cases(variant("put", api.TyInt), variant("get", api.TyChan)), "put", -1)
	checkFind(t, plain(variant("put", api.TyInt)), "put", -1)
	checkFind(t, plain(variant("")), "", -1)
	checkFind(t, cases(variant("")), "", -1)
	checkFind(t, api.Proto{}, "", -1)
}

// R6: the items that were found are new memory.
func TestFoundItemsAreNew(t *testing.T) {
	p := cases(variant("put", api.TyInt, api.TyByte), variant("get", api.TyBool))
	was := cloned(p)
	l, _, _ := types.Find(p, "put")
	l[0], l[1] = api.TyTimer, api.TyTimer
	if !equal(p, was) {
		t.Error("the protocol has changed with the items that were found")
	}
	_ = append(l[:0], api.TyBool, api.TyBool)
	checkFind(t, p, "put", 0)
	a, _, _ := types.Find(p, "put")
	b, _, _ := types.Find(p, "put")
	a[0] = api.TyBool
	if b[0] != api.TyInt {
		t.Error("two results share memory")
	}
}

// R6: what lies behind the length of the lists is neither read nor written.
func TestBehindTheLists(t *testing.T) {
	behind := []api.TypeKind{api.TyInt, api.TyTimer, api.TyTimer}
	variants := []api.Variant{variant("p"), {Tag: "p"}, {Tag: "IF"}}
	variants[0].Items = behind[:1]
	p := api.Proto{Cases: true, L: variants[:1]}
	if !types.MayProto(p) {
		t.Error("MayProto has looked behind a length")
	}
	l, _, _ := types.Find(p, "p")
	_ = append(l, api.TyBool)
	if behind[1] != api.TyTimer || variants[1].Tag != "p" {
		t.Error("memory behind a length has changed")
	}
	checkFind(t, p, "IF", -1)
}
