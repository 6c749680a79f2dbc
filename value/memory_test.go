package value_test

import (
	"runtime/debug"
	"slices"
	"strings"
	"testing"
	"unsafe"

	"provision/api"
	"provision/value"
)

// span is a part of the memory.
type span struct {
	from, to uintptr
}

func spanOf(start unsafe.Pointer, size uintptr) span {
	return span{uintptr(start), uintptr(start) + size}
}

// listSpans returns the memory of the lists of v, with what they could grow into.
func listSpans(v api.Value) []span {
	all := []span{
		spanOf(unsafe.Pointer(unsafe.SliceData(v.Items)), uintptr(cap(v.Items))*unsafe.Sizeof(v)),
		spanOf(unsafe.Pointer(unsafe.SliceData(v.Keys)), uintptr(cap(v.Keys))*unsafe.Sizeof("")),
	}
	for _, item := range v.Items {
		all = append(all, listSpans(item)...)
	}
	return slices.DeleteFunc(all, func(s span) bool { return s.from == s.to })
}

func stringSpan(s string) span {
	return spanOf(unsafe.Pointer(unsafe.StringData(s)), uintptr(len(s)))
}

// stringSpans returns the memory of the strings of v.
func stringSpans(v api.Value) []span {
	all := []span{stringSpan(v.Str)}
	for _, key := range v.Keys {
		all = append(all, stringSpan(key))
	}
	for _, item := range v.Items {
		all = append(all, stringSpans(item)...)
	}
	return slices.DeleteFunc(all, func(s span) bool { return s.from == s.to })
}

func overlap(a, b []span) bool {
	for _, x := range a {
		for _, y := range b {
			if x.from < y.to && y.from < x.to {
				return true
			}
		}
	}
	return false
}

// checkSeparate reports results that share memory with arguments, with each other, or within themselves.
func checkSeparate(t *testing.T, name string, results []api.Value, arguments []api.Value, keys ...string) {
	t.Helper()
	for i, v := range results {
		own := listSpans(v)
		for k := range own {
			if overlap(own[k:k+1], own[k+1:]) {
				t.Errorf("%s: two lists of %s share memory", name, show(v))
			}
		}
		own = append(own, stringSpans(v)...)
		for _, other := range slices.Concat(results[:i], arguments) {
			if overlap(own, append(listSpans(other), stringSpans(other)...)) {
				t.Errorf("%s: %s shares memory with an argument or another result", name, show(v))
			}
		}
		for _, key := range keys {
			if overlap(own, []span{stringSpan(key)}) {
				t.Errorf("%s: %s shares memory with a key", name, show(v))
			}
		}
	}
}

// fresh returns a string with memory of its own.
func fresh(s string) string { return strings.Clone(s) }

// sharing returns a value with strings and lists in it, of which it has one several times.
func sharing() api.Value {
	inner := object("k,l", str(fresh("inner")), list(num(1), str(fresh("text"))))
	inner.Keys[0], inner.Keys[1] = fresh("key"), fresh("lock")
	return list(inner, inner, list(inner.Items[1], inner), str(inner.Items[0].Str))
}

// R4
func TestResultsShareNoMemory(t *testing.T) {
	s, key := fresh("a string"), fresh("c key")
	checkSeparate(t, "String", []api.Value{value.String(s), value.String(s)}, nil, s)

	x, y := sharing(), sharing()
	items := []api.Value{x, x, y, x}
	checkSeparate(t, "List", []api.Value{value.List(items...), value.List(items...), value.List(x)}, []api.Value{list(items...)})

	keys := []string{fresh("d key"), fresh("a key"), fresh("b key"), fresh("e key")}
	argument := api.Value{Kind: 5, Keys: keys, Items: items}
	first, e1 := value.Map(keys, items)
	second, e2 := value.Map(keys, items)
	if e1 != api.OK || e2 != api.OK {
		t.Fatal(e1, e2)
	}
	checkSeparate(t, "Map", []api.Value{first, second}, []api.Value{argument})

	one, _ := value.Get(first, "a key")
	two, _ := value.Get(first, "a key")
	checkSeparate(t, "Get", []api.Value{one, two}, []api.Value{first})
	if !same(one, x) || !same(two, x) {
		t.Errorf("Get = %s, %s", show(one), show(two))
	}

	old := fresh("d key")
	results := []api.Value{value.Put(first, key, x), value.Put(first, key, x), value.Put(first, old, x), value.Put(first, key, first), value.Put(first, old, first)}
	checkSeparate(t, "Put", results, []api.Value{first, x}, key, old)
}

// R4: what a result is changed to later is not seen elsewhere.
func TestResultsAreIndependent(t *testing.T) {
	x := sharing()
	before := copied(x)
	l := value.List(x, x)
	m, _ := value.Map([]string{"a", "b"}, []api.Value{x, x})
	p := value.Put(m, "b", x)
	g, _ := value.Get(p, "b")
	l.Items[0].Items[0].Items[1].Items[0] = num(99)
	m.Items[0].Items[0].Keys[0] = "changed"
	g.Items[1].Items[0].Str = "changed"
	_ = append(p.Keys, "changed")
	_ = append(p.Items, num(99))
	if !same(x, before) || !same(l.Items[1], before) || !same(m.Items[1], before) || !same(p, api.Value{Kind: 5, Keys: []string{"a", "b"}, Items: []api.Value{before, before}}) {
		t.Error("a change of a result is seen in an argument or another result")
	}
	if !same(l.Items[0].Items[1], before.Items[1]) {
		t.Error("a change of a part of a result is seen in another part of it")
	}
}

// R4: arguments stay as they are, and so does what is behind their lists in memory.
func TestArgumentsAreNotModified(t *testing.T) {
	for _, v := range slices.Concat(maps(), bases(), oddValues()) {
		keys, items := append(slices.Clone(v.Keys), "behind", "the keys"), append(slices.Clone(v.Items), str("behind"), str("the items"))
		v.Keys, v.Items = keys[:len(v.Keys)], items[:len(v.Items)]
		x := list(list(num(1)), str("x"))
		beforeKeys, before, beforeX := slices.Clone(keys), copied(list(items...)), copied(x)
		value.Check(v)
		value.List(v, x, v)
		value.List(v.Items...)
		value.Map(v.Keys, v.Items)
		value.Map(slices.Concat([]string{"z"}, v.Keys, []string{"0"}), slices.Concat([]api.Value{v}, v.Items, []api.Value{x}))
		for _, key := range []string{"", "a", "b", "d", "zz"} {
			value.Get(v, key)
			value.Put(v, key, x)
			value.Put(v, key, v)
		}
		value.Equal(v, x)
		value.Compare(v, v)
		value.Known(v)
		value.Refines(v, x)
		value.Refines(x, v)
		value.Nodes(v)
		if !slices.Equal(keys, beforeKeys) || !same(list(items...), before) || !same(x, beforeX) {
			t.Errorf("%s became %s", show(before), show(list(items...)))
		}
	}
	keys, items := []string{"c", "a", "b"}, []api.Value{num(1), num(2), num(3)}
	if _, e := value.Map(keys, items); e != api.OK || !slices.Equal(keys, []string{"c", "a", "b"}) || !same(list(items...), list(num(1), num(2), num(3))) {
		t.Errorf("the arguments of Map became %q and %s", keys, show(list(items...)))
	}
}

// endless returns values that contain themselves, or the same items more often than can be counted.
func endless() []api.Value {
	alone, beside, behind, keyed := nulls(1), nulls(2), nulls(2), nulls(2)
	alone[0] = list(alone...)
	beside[0], beside[1] = list(beside...), list(beside...)
	behind[1] = list(behind...)
	keyed[1] = object("a,b", keyed...)
	doubled := num(1)
	for range 100 {
		doubled = list(doubled, doubled)
	}
	return []api.Value{alone[0], beside[0], behind[1], keyed[1], doubled, object("a,b", doubled, num(2)), object("a,b", num(2), alone[0])}
}

// nested returns a list in so many levels of lists.
func nested(levels int) api.Value {
	v := list()
	for range levels - 1 {
		v = list(v)
	}
	return v
}

// R1: values that are not valid.
func TestAllValuesAreExamined(t *testing.T) {
	defer debug.SetMaxStack(debug.SetMaxStack(1 << 20))
	odd := append(oddValues(), nested(1000), nested(200000), list(nulls(100000)...), object("a,b", nested(200000)), object("a,b", nested(200000), null()),
		api.Value{Kind: 5, Keys: []string{"a", "b", "c"}, Items: nulls(1)}, api.Value{Kind: 5, Keys: []string{"c", "b", "a"}, Items: nulls(3)}, api.Value{Kind: 5, Keys: []string{"a"}}, api.Value{Kind: 5, Items: nulls(3)},
		api.Value{Kind: 4, Keys: []string{"a", "b"}, Items: nulls(1)}, api.Value{Kind: 4, Keys: []string{"a", "b"}}, api.Value{Kind: 0, Keys: []string{"a"}, Items: nulls(2)}, api.Value{Kind: 6, Items: nulls(2), Keys: []string{"a", "b", "c"}})
	odd = append(odd, endless()...)
	partner := endless()[1]
	for _, v := range odd {
		value.Check(v)
		value.Known(v)
		value.Nodes(v)
		for _, key := range []string{"", "a", "b", "c", "z"} {
			value.Get(v, key)
		}
		value.Put(v, "aa", null())
		value.Put(emptyMap(), "aa", v)
		for _, w := range []api.Value{v, list(v), null(), partner} {
			value.Equal(v, w)
			value.Compare(v, w)
			value.Compare(w, v)
			value.Refines(v, w)
			value.Refines(w, v)
		}
	}
}

// P7.1: values that have no end have an error all the same.
func TestCheckOfEndlessValues(t *testing.T) {
	for i, v := range endless() {
		if e := value.Check(v); e != api.ErrTooDeep {
			t.Errorf("Check of the value %d = %d", i, e)
		}
	}
	for levels, want := range map[int]api.Errno{32: api.OK, 33: api.ErrTooDeep, 200000: api.ErrTooDeep} {
		if e := value.Check(nested(levels)); e != want {
			t.Errorf("Check of %d levels = %d", levels, e)
		}
	}
}

// P7.3 and P7.4: items are taken as they are, however deeply they are nested.
func TestItemsOfManyLevels(t *testing.T) {
	defer debug.SetMaxStack(debug.SetMaxStack(1 << 20))
	const levels = 200000
	m, e := value.Map([]string{"a"}, []api.Value{nested(levels)})
	if e != api.OK || len(m.Items) != 1 {
		t.Fatalf("Map = %d", e)
	}
	for _, v := range []api.Value{value.List(nested(levels)), m} {
		below := 0
		for len(v.Items) == 1 {
			v = v.Items[0]
			below++
			if v.Kind != api.KindList {
				t.Fatalf("the kind at the level %d is %d", below, v.Kind)
			}
		}
		if below != levels || len(v.Items) != 0 {
			t.Errorf("%d levels and %d items; want %d and none", below, len(v.Items), levels)
		}
	}
}

// P7.3: very many items.
func TestVeryManyItems(t *testing.T) {
	const n = 1 << 19
	items := nulls(n)
	items[n-1] = num(1)
	got := value.List(items...)
	if len(got.Items) != n || got.Items[n-1].Num != 1 || got.Items[0].Kind != api.KindNull {
		t.Errorf("a list of %d items", len(got.Items))
	}
}
