package path_test

import (
	"math"
	"runtime/debug"
	"slices"
	"strings"
	"testing"
	"unsafe"

	"provision/api"
	"provision/path"
)

// span is a part of the memory.
type span struct {
	from, to uintptr
}

func spanOf(start unsafe.Pointer, size uintptr) span {
	return span{uintptr(start), uintptr(start) + size}
}

func isEmpty(s span) bool { return s.from == s.to }

func stringSpan(s string) span { return spanOf(unsafe.Pointer(unsafe.StringData(s)), uintptr(len(s))) }

func listSpan[T any](list []T) span {
	var one T
	return spanOf(unsafe.Pointer(unsafe.SliceData(list)), uintptr(cap(list))*unsafe.Sizeof(one))
}

// memory is what a result or an argument consists of: lists, with what they could grow into, and strings.
type memory struct {
	lists, strings []span
}

func (m memory) all() []span { return slices.DeleteFunc(slices.Concat(m.lists, m.strings), isEmpty) }

func ofValue(v api.Value) memory {
	m := memory{[]span{listSpan(v.Items), listSpan(v.Keys)}, []span{stringSpan(v.Str)}}
	for _, key := range v.Keys {
		m.strings = append(m.strings, stringSpan(key))
	}
	for _, item := range v.Items {
		inner := ofValue(item)
		m.lists, m.strings = append(m.lists, inner.lists...), append(m.strings, inner.strings...)
	}
	return m
}

func ofPath(p []api.PathStep) memory {
	m := memory{lists: []span{listSpan(p)}}
	for _, step := range p {
		m.strings = append(m.strings, stringSpan(step.Name))
	}
	return m
}

func ofPaths(list [][]api.PathStep) memory {
	m := memory{lists: []span{listSpan(list)}}
	for _, p := range list {
		inner := ofPath(p)
		m.lists, m.strings = append(m.lists, inner.lists...), append(m.strings, inner.strings...)
	}
	return m
}

func ofText(s string) memory { return memory{strings: []span{stringSpan(s)}} }

func overlap(a, b []span) bool {
	for _, x := range a {
		for _, y := range b {
			if x.from < y.to && y.from < x.to {
				return true
			}
		}
	}
	return false
}

// checkSeparate reports results that share memory with arguments or with each other, and lists of a result that share it.
func checkSeparate(t *testing.T, name string, results []memory, arguments ...memory) {
	t.Helper()
	for i, result := range results {
		lists := slices.DeleteFunc(slices.Clone(result.lists), isEmpty)
		for k := range lists {
			if overlap(lists[k:k+1], lists[k+1:]) {
				t.Errorf("%s: two lists of the result %d share memory", name, i)
			}
		}
		for k, other := range slices.Concat(results[:i], arguments) {
			if overlap(result.all(), other.all()) {
				t.Errorf("%s: the result %d shares memory with an argument or another result (%d)", name, i, k)
			}
		}
	}
}

// fresh returns a string with memory of its own.
func fresh(s string) string { return strings.Clone(s) }

// sharing returns a value with strings and lists in it, of which it has one several times.
func sharing() api.Value {
	inner := object("k,l", str(fresh("inner")), list(num(1), str(fresh("text"))))
	inner.Keys[0], inner.Keys[1] = fresh("key one"), fresh("lock")
	return list(inner, inner, list(inner.Items[1], inner), str(inner.Items[0].Str))
}

// freshPath returns a path with names of its own.
func freshPath(parts ...any) []api.PathStep {
	p := steps(parts...)
	for i := range p {
		p[i].Name = fresh(p[i].Name)
	}
	return p
}

// R4
func TestResultsShareNoMemory(t *testing.T) {
	for _, p := range [][]api.PathStep{freshPath("a_name"), freshPath("a name"), freshPath("a_name", 3, "a name")} {
		s, again := path.Format(p), path.Format(p)
		checkSeparate(t, "Format", []memory{ofText(s), ofText(again)}, ofPath(p))
		one, e1 := path.Parse(s)
		two, e2 := path.Parse(s)
		if e1 != api.OK || e2 != api.OK || !slices.Equal(one, p) || !slices.Equal(two, p) {
			t.Fatal(one, e1, two, e2)
		}
		checkSeparate(t, "Parse", []memory{ofPath(one), ofPath(two)}, ofText(s))
	}
	v, x := sharing(), sharing()
	for _, p := range [][]api.PathStep{nil, freshPath(0), freshPath(2), freshPath(2, 1, "lock"), freshPath(1, "key one"), freshPath(3)} {
		one, e1 := path.Get(v, p)
		two, e2 := path.Get(v, p)
		if e1 != api.OK || e2 != api.OK {
			t.Fatal(e1, e2)
		}
		checkSeparate(t, "Get", []memory{ofValue(one), ofValue(two)}, ofValue(v), ofPath(p))
	}
	for _, p := range [][]api.PathStep{nil, freshPath(0), freshPath(2, 1), freshPath(2, 1, "lock"), freshPath(1, "a new key"), freshPath(3)} {
		for _, x := range []api.Value{x, v, v.Items[0], str(fresh("a string"))} {
			one, e1 := path.Set(v, p, x)
			two, e2 := path.Set(v, p, x)
			if e1 != api.OK || e2 != api.OK {
				t.Fatal(e1, e2)
			}
			checkSeparate(t, "Set", []memory{ofValue(one), ofValue(two)}, ofValue(v), ofValue(x), ofPath(p))
		}
	}
	w := replaced(replaced(sharing(), steps(0, "lock", 1), num(5)), steps(2, 1, "key one"), null())
	for _, w := range []api.Value{w, replaced(w, steps(3), list()), x, null()} {
		one, two := path.Diff(v, w), path.Diff(v, w)
		checkSeparate(t, "Diff", []memory{ofPaths(one), ofPaths(two)}, ofValue(v), ofValue(w))
		one, two = path.Leaves(w), path.Leaves(w)
		checkSeparate(t, "Leaves", []memory{ofPaths(one), ofPaths(two)}, ofValue(w))
	}
	many := object("k,l", list(nulls(50)...), object("m", list(nulls(50)...)))
	checkSeparate(t, "Leaves", []memory{ofPaths(path.Leaves(many)), ofPaths(path.Leaves(many))}, ofValue(many))
}

// R4: what a result is changed to later is not seen elsewhere.
func TestResultsAreIndependent(t *testing.T) {
	v, x := sharing(), sharing()
	before := copied(v)
	g, _ := path.Get(v, steps(2))
	g.Items[1].Keys[0] = "changed"
	g.Items[0].Items[0] = num(99)
	s, _ := path.Set(v, steps(1), x)
	s.Items[1].Items[1].Items[0] = num(99)
	s.Items[0].Keys[0] = "changed"
	_ = append(s.Items[0].Items, num(99))
	if !same(v, before) || !same(x, before) || !same(s.Items[2], before.Items[2]) {
		t.Error("a change of a result is seen in an argument or in another part of the result")
	}
	leaves := path.Leaves(v)
	for i := range leaves {
		leaves[i] = append(leaves[i], named("more"))
		leaves[i][0] = named("changed")
	}
	if again := path.Leaves(v); texts(again[:2]) != `[0]["key one"],[0].lock[0]` {
		t.Error("a change of a result is seen in the next one:", texts(again))
	}
	for _, p := range leaves {
		if p[0].Name != "changed" || p[len(p)-1].Name != "more" {
			t.Error("a change of a path is seen in another one:", shown(p))
		}
	}
}

// R4: arguments stay as they are, and so does what is behind their lists in memory.
func TestArgumentsAreNotModified(t *testing.T) {
	behindPath := append(steps("a", 0, "b"), named("behind"), index(99))
	for _, v := range append(bases(), sharing(), sample()) {
		keys, items := append(slices.Clone(v.Keys), "behind", "the keys"), append(slices.Clone(v.Items), str("behind"), str("the items"))
		v.Keys, v.Items = keys[:len(v.Keys)], items[:len(v.Items)]
		x := list(list(num(1)), str("x"))
		beforeKeys, before, beforeX := slices.Clone(keys), copied(list(items...)), copied(x)
		for _, p := range paths(2, named("a"), named("b"), named("aa"), index(0), index(1)) {
			whole := append(slices.Clone(p), behindPath...)
			p := whole[:len(p)]
			beforePath := slices.Clone(whole)
			path.Check(p)
			path.Format(p)
			path.Get(v, p)
			path.Set(v, p, x)
			path.Set(v, p, v)
			if !slices.Equal(whole, beforePath) {
				t.Errorf("the path %s became %s", shown(beforePath), shown(whole))
			}
		}
		path.Diff(v, x)
		path.Diff(x, v)
		path.Diff(v, v)
		path.Leaves(v)
		if !slices.Equal(keys, beforeKeys) || !same(list(items...), before) || !same(x, beforeX) {
			t.Errorf("%s became %s", show(before), show(list(items...)))
		}
	}
}

// endless returns values that contain themselves, or the same items more often than can be counted.
func endless() []api.Value {
	alone, beside, keyed := nulls(1), nulls(2), nulls(2)
	alone[0] = list(alone...)
	beside[0], beside[1] = list(beside...), list(beside...)
	keyed[1] = object("a,b", keyed...)
	doubled := num(1)
	for range 100 {
		doubled = list(doubled, doubled)
	}
	return []api.Value{alone[0], beside[0], keyed[1], doubled, object("a,b", doubled, num(2)), object("a,b", num(2), alone[0])}
}

// oddValues returns values that are not valid.
func oddValues() []api.Value {
	odd := []api.Value{
		inLists(200000, null()), inMaps(200000, null()), list(nulls(1 << 20)...), num(math.MinInt), str("\xff"), str(long(1 << 20)), object("a,b", inLists(200000, null()), null()),
		{Kind: 5, Keys: []string{"a", "b", "c"}, Items: nulls(1)}, {Kind: 5, Keys: []string{"c", "b", "a"}, Items: nulls(3)}, {Kind: 5, Keys: []string{"a"}}, {Kind: 5, Items: nulls(3)}, {Kind: 5, Keys: []string{"a", "a", "b"}, Items: nulls(3)},
		{Kind: 4, Keys: []string{"a", "b"}, Items: nulls(1)}, {Kind: 4, Keys: []string{"a", "b"}}, {Kind: 0, Keys: []string{"a"}, Items: nulls(2)}, {Kind: 6, Items: nulls(2), Keys: []string{"a", "b", "c"}}, {Kind: 2, Items: nulls(2)},
		{Kind: 7}, {Kind: -1, Num: 5, Items: nulls(1)}, {Kind: math.MaxInt, Keys: []string{"a"}, Items: nulls(1)},
	}
	odd = append(odd, endless()...)
	for _, v := range slices.Clone(odd[3:]) {
		odd = append(odd, list(v, v), object("a,b", v, num(1)))
	}
	return odd
}

// oddPaths returns paths that are not valid.
func oddPaths() [][]api.PathStep {
	return [][]api.PathStep{
		{index(-1)}, {index(math.MinInt)}, {index(math.MaxInt)}, {index(greatest + 1)}, {{Num: 5, Name: "a"}}, {{Num: -5}}, {{Index: true, Name: "a"}}, {{Index: true, Num: -1, Name: "a"}}, {named("\xff")}, {named(long(1 << 20))},
		{index(0), index(-1)}, {named("a"), index(-1)}, {named("b"), named("\xff"), index(-1)},
		repeated(33, index(0)), repeated(33, named("a")), repeated(1<<20, index(0)), repeated(1<<20, named("b")), repeated(1<<16, named(long(1<<20))),
	}
}

// R1: paths and values that are not valid.
func TestAllArgumentsAreTaken(t *testing.T) {
	defer debug.SetMaxStack(debug.SetMaxStack(1 << 20))
	values := append(oddValues(), atoms()...)
	values = append(values, sample(), list(num(1), num(2)), object("a,b", list(num(1)), list()))
	all := append(oddPaths(), paths(2, named("a"), named("b"), index(0), index(1))...)
	all = append(all, repeated(32, index(0)), repeated(32, named("b")))
	for _, p := range oddPaths() {
		path.Check(p)
		path.Format(p)
	}
	for i, v := range values {
		for _, p := range all {
			path.Get(v, p)
			path.Set(v, p, null())
			path.Set(v, p, values[(i+7)%len(values)])
			path.Set(num(1), p, v)
		}
		path.Leaves(v)
		for _, w := range []api.Value{v, list(v), null(), values[(i+1)%len(values)]} {
			path.Diff(v, w)
			path.Diff(w, v)
		}
	}
}

// R1: texts of all kinds.
func TestAllTextsAreTaken(t *testing.T) {
	defer debug.SetMaxStack(debug.SetMaxStack(1 << 20))
	for _, part := range []string{"", "a", ".", "[", "]", "\"", "\\", "[0]", ".a", "a.", "[\"", "[\"]", "[\" \"]", "9", "\xff", "\x00", "é"} {
		for _, size := range []int{1, 31, 32, 33, 1000, 65536, 1 << 22} {
			path.Parse(strings.Repeat(part, size))
			path.Parse("[" + strings.Repeat(part, size))
			path.Parse("[\"" + strings.Repeat(part, size))
		}
	}
}
