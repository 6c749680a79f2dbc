package value_test

import (
	"math"
	"math/rand/v2"
	"slices"
	"strings"
	"testing"

	"provision/api"
	"provision/value"
)

// orderOf is the order of two values by its definition.
func orderOf(a, b api.Value) int {
	switch {
	case a.Kind < b.Kind:
		return -1
	case a.Kind > b.Kind:
		return 1
	}
	switch a.Kind {
	case 1, 2:
		switch {
		case a.Num < b.Num:
			return -1
		case a.Num > b.Num:
			return 1
		}
	case 3:
		return slices.Compare([]byte(a.Str), []byte(b.Str))
	case 4:
		return orderOfLists(a.Items, b.Items)
	case 5:
		return orderOfLists(alternating(a), alternating(b))
	}
	return 0
}

func orderOfLists(a, b []api.Value) int {
	for i := 0; i < len(a) && i < len(b); i++ {
		if order := orderOf(a[i], b[i]); order != 0 {
			return order
		}
	}
	switch {
	case len(a) < len(b):
		return -1
	case len(a) > len(b):
		return 1
	}
	return 0
}

// alternating returns the list in which the keys and the items of a map alternate.
func alternating(m api.Value) []api.Value {
	var list []api.Value
	for i, key := range m.Keys {
		list = append(list, str(key), m.Items[i])
	}
	return list
}

// isRefined reports whether a refines b, by the definition.
func isRefined(a, b api.Value) bool {
	if b.Kind == 6 {
		return true
	}
	if a.Kind != b.Kind || a.Num != b.Num || a.Str != b.Str || len(a.Items) != len(b.Items) || !slices.Equal(a.Keys, b.Keys) {
		return false
	}
	for i := range a.Items {
		if !isRefined(a.Items[i], b.Items[i]) {
			return false
		}
	}
	return true
}

func isKnown(v api.Value) bool {
	return !slices.ContainsFunc(nodesOf(v, 1), func(n place) bool { return n.Kind == 6 })
}

// checkPair compares all functions of two values, in either order, with their definitions.
func checkPair(t *testing.T, a, b api.Value) {
	t.Helper()
	for range 2 {
		if got, want := value.Compare(a, b), orderOf(a, b); got != want {
			t.Errorf("Compare(%s, %s) = %d; want %d", show(a), show(b), got, want)
		}
		if got, want := value.Equal(a, b), same(a, b); got != want {
			t.Errorf("Equal(%s, %s) = %t", show(a), show(b), got)
		}
		if got, want := value.Refines(a, b), isRefined(a, b); got != want {
			t.Errorf("Refines(%s, %s) = %t", show(a), show(b), got)
		}
		a, b = b, a
	}
}

// checkEach compares the functions of one value with their definitions.
func checkEach(t *testing.T, v api.Value) {
	t.Helper()
	if got, want := value.Known(v), isKnown(v); got != want {
		t.Errorf("Known(%s) = %t", show(v), got)
	}
	if got, want := value.Nodes(v), len(nodesOf(v, 1)); got != want {
		t.Errorf("Nodes(%s) = %d; want %d", show(v), got, want)
	}
}

// combined returns the parts, and the lists and maps of up to two of them.
func combined(parts []api.Value, keys []string) []api.Value {
	all := slices.Clone(parts)
	for _, x := range parts {
		all = append(all, list(x))
		for i, key := range keys {
			all = append(all, object(key, x))
			for _, y := range parts {
				for _, behind := range keys[i+1:] {
					all = append(all, object(key+","+behind, x, y))
				}
			}
		}
		for _, y := range parts {
			all = append(all, list(x, y))
		}
	}
	return all
}

// smallValues returns all values of up to two levels with up to two of these parts.
func smallValues() []api.Value {
	return combined([]api.Value{null(), unknown(), boolean(0), boolean(1), num(-1), num(1), str(""), str("a"), list(), emptyMap()}, []string{"", "a", "ab"})
}

// deepValues returns values of three levels.
func deepValues() []api.Value {
	inner := combined([]api.Value{unknown(), num(1)}, []string{"a", "b"})
	return combined(inner, []string{"a", "b"})
}

// P7.7, P7.8 and P7.10
func TestComparisonsOfManyValues(t *testing.T) {
	small, deep := smallValues(), deepValues()
	if len(small) != 450 || len(deep) != 576 {
		t.Fatal(len(small), len(deep))
	}
	for _, all := range [][]api.Value{small, deep} {
		for i, a := range all {
			for _, b := range all[:i+1] {
				checkPair(t, a, b)
			}
		}
	}
}

// P7.9 and P7.11
func TestKnownAndNodesOfManyValues(t *testing.T) {
	for _, v := range append(smallValues(), deepValues()...) {
		checkEach(t, v)
	}
	r := rand.New(rand.NewPCG(7, 9))
	for range 5000 {
		checkEach(t, random(r, 1))
	}
}

// P7.7: examples and edge cases.
func TestEqual(t *testing.T) {
	for _, c := range []struct {
		a, b api.Value
		want bool
	}{
		{num(1), num(1), true}, {num(1), str("1"), false}, {num(1), boolean(1), false}, {num(0), boolean(0), false}, {null(), num(0), false}, {null(), unknown(), false}, {null(), boolean(0), false}, {null(), str(""), false}, {null(), list(), false},
		{null(), null(), true}, {unknown(), unknown(), true}, {list(unknown()), list(unknown()), true}, {list(), emptyMap(), false}, {list(null()), list(unknown()), false},
		{list(), api.Value{Kind: 4, Items: []api.Value{}}, true}, {emptyMap(), api.Value{Kind: 5, Items: []api.Value{}, Keys: []string{}}, true}, {null(), api.Value{Items: []api.Value{}, Keys: []string{}}, true},
		{list(list()), list(api.Value{Kind: 4, Items: []api.Value{}}), true}, {list(list()), list(), false}, {list(list()), list(list(list())), false},
		{list(num(1), num(2)), list(num(2), num(1)), false}, {list(num(1)), list(num(1), num(1)), false}, {list(num(1), null()), list(num(1)), false},
		{object("a", num(1)), object("a", num(1)), true}, {object("a", num(1)), object("b", num(1)), false}, {object("a", num(1)), object("a", num(2)), false}, {object("a", num(1)), object("a,b", num(1), num(1)), false}, {object("0", num(1)), list(num(1)), false},
		{str("a"), str("a"), true}, {str("a"), str("b"), false}, {str("a"), str("ab"), false}, {str("é"), str("e\u0301"), false}, {str("A"), str("a"), false},
		{num(greatest), num(-greatest), false}, {num(greatest), num(greatest - 1), false}, {num(1 << 32), num(0), false},
	} {
		if value.Equal(c.a, c.b) != c.want || value.Equal(c.b, c.a) != c.want {
			t.Errorf("Equal(%s, %s) is not %t", show(c.a), show(c.b), c.want)
		}
	}
}

// P7.8: each value comes before the next one.
func TestCompareInOrder(t *testing.T) {
	ascending := []api.Value{
		null(),
		boolean(0), boolean(1),
		num(-greatest), num(-2), num(-1), num(0), num(1), num(10), num(1 << 32), num(greatest),
		str(""), str("\x00"), str("1"), str("10"), str("9"), str("Z"), str("a"), str("a\x00"), str("aa"), str("ab"), str("b"), str("é"), str("\uffff"), str("\U00010000"),
		list(), list(null()), list(null(), null()), list(null(), unknown()), list(boolean(0)), list(num(1)), list(num(1), null()), list(num(1), num(1)), list(num(1), num(1), num(1)), list(num(1), num(2)), list(num(2)), list(num(2), num(1)),
		list(str("a")), list(list()), list(list(), list()), list(list(num(1))), list(list(num(1)), num(5)), list(list(num(1), num(0)), null()), list(list(num(1), num(0)), num(1)), list(list(num(2))), list(emptyMap()), list(unknown()),
		emptyMap(), object("", null()), object("", num(5)), object(",a", num(5), num(1)), object("a", null()), object("a", num(1)), object("a,aa", num(1), num(9)), object("a,b", num(1), num(0)), object("a,b", num(1), num(1)), object("a,b,c", num(1), num(1), null()),
		object("a,c", num(1), num(0)), object("a", num(2)), object("a,b", num(2), num(0)), object("a,b", list(), num(7)), object("a,b", list(num(0)), num(5)), object("a", unknown()), object("aa", null()), object("b", null()), object("é", null()),
		unknown(),
	}
	for i, a := range ascending {
		for j, b := range ascending {
			want := 0
			if i < j {
				want = -1
			} else if i > j {
				want = 1
			}
			if got := value.Compare(a, b); got != want {
				t.Errorf("Compare(%s, %s) = %d; want %d", show(a), show(b), got, want)
			}
		}
	}
}

// P7.9
func TestKnown(t *testing.T) {
	for _, v := range []api.Value{null(), boolean(0), num(6), str("unknown"), list(), emptyMap(), list(null(), list(num(1))), object("unknown", str("")), inLists(31, num(1)), list(nulls(4095)...)} {
		if !value.Known(v) {
			t.Errorf("Known(%s) = false", show(v))
		}
	}
	last := nulls(4095)
	last[4094] = unknown()
	for _, v := range []api.Value{
		unknown(), list(unknown()), list(num(1), unknown()), list(unknown(), num(1)), list(num(1), unknown(), num(1)), object("a", unknown()), object("a,b", unknown(), num(1)), object("a,b", num(1), unknown()),
		inLists(31, unknown()), inMaps(31, unknown()), list(inLists(30, unknown()), num(1)), list(inLists(30, num(1)), unknown()), list(last...), list(list(), emptyMap(), list(list(), object("a", list(unknown())))),
	} {
		if value.Known(v) {
			t.Errorf("Known(%s) = true", show(v))
		}
	}
}

// P7.10: examples and edge cases.
func TestRefines(t *testing.T) {
	for _, c := range []struct {
		a, b        api.Value
		there, back bool
	}{
		{num(1), num(1), true, true}, {num(1), unknown(), true, false}, {null(), unknown(), true, false}, {unknown(), unknown(), true, true}, {list(), unknown(), true, false}, {list(unknown()), unknown(), true, false}, {object("a", num(1)), unknown(), true, false},
		{list(num(1)), list(unknown()), true, false}, {list(unknown()), list(unknown()), true, true}, {list(num(1), unknown()), list(unknown(), num(1)), false, false}, {list(num(1), unknown()), list(unknown(), unknown()), true, false}, {list(num(1), num(2)), list(unknown(), num(2)), true, false},
		{list(), list(unknown()), false, false}, {list(num(1)), list(unknown(), unknown()), false, false}, {list(unknown()), list(unknown(), unknown()), false, false}, {list(list()), list(unknown()), true, false}, {list(list(unknown())), list(unknown()), true, false},
		{null(), num(1), false, false}, {num(1), num(2), false, false}, {str("1"), num(1), false, false}, {str("a"), str("b"), false, false}, {boolean(0), boolean(1), false, false}, {null(), list(unknown()), false, false}, {emptyMap(), list(), false, false},
		{object("a", null()), object("a", unknown()), true, false}, {object("a", num(1)), object("b", unknown()), false, false}, {object("a,b", num(1), num(2)), object("a", unknown()), false, false}, {object("a,b", num(1), num(2)), object("a,b", unknown(), num(2)), true, false},
		{object("a,b", num(1), num(2)), object("a,c", unknown(), unknown()), false, false}, {object("a", num(1)), list(unknown()), false, false}, {emptyMap(), object("a", unknown()), false, false}, {object("a,b", unknown(), num(2)), object("a,b", num(1), unknown()), false, false},
		{object("a,b", null(), num(1)), object("a,b", unknown(), num(1)), true, false}, {object("a", num(1)), object("a,b", unknown(), num(1)), false, false},
		{list(list(num(1), num(2)), num(3)), list(unknown(), num(3)), true, false}, {list(list(num(1), num(2)), num(3)), list(unknown(), num(4)), false, false}, {list(unknown(), num(3)), list(unknown(), num(4)), false, false}, {list(list(num(1), num(2)), num(3)), list(list(unknown(), num(2)), unknown()), true, false},
		{list(list(num(1), num(2)), num(3)), list(list(unknown(), num(5)), unknown()), false, false}, {inLists(31, num(1)), inLists(31, unknown()), true, false}, {inLists(31, num(1)), inLists(20, unknown()), true, false}, {inMaps(31, num(1)), inMaps(31, num(2)), false, false}, {inMaps(31, num(1)), inMaps(30, unknown()), true, false},
		{list(), api.Value{Kind: 4, Items: []api.Value{}}, true, true}, {emptyMap(), api.Value{Kind: 5, Items: []api.Value{}, Keys: []string{}}, true, true},
	} {
		if value.Refines(c.a, c.b) != c.there || value.Refines(c.b, c.a) != c.back {
			t.Errorf("Refines of %s and %s is not %t, and %t the other way", show(c.a), show(c.b), c.there, c.back)
		}
	}
}

// P7.11
func TestNodes(t *testing.T) {
	for _, c := range []struct {
		v    api.Value
		want int
	}{
		{null(), 1}, {unknown(), 1}, {boolean(1), 1}, {num(100), 1}, {str("abc"), 1}, {list(), 1}, {emptyMap(), 1}, {list(num(1), num(2)), 3}, {list(list(), list()), 3}, {object("a,b", num(1), list(num(2))), 4},
		{list(list(num(1)), null()), 4}, {inLists(31, null()), 32}, {inMaps(31, null()), 32}, {list(nulls(4095)...), 4096}, {list(inLists(30, null()), inMaps(30, null())), 63}, {list(list(nulls(2047)...), list(nulls(2046)...)), 4096},
	} {
		if got := value.Nodes(c.v); got != c.want {
			t.Errorf("Nodes(%s) = %d; want %d", show(c.v), got, c.want)
		}
	}
}

// bases returns valid values in which each kind occurs at some depth.
func bases() []api.Value {
	return []api.Value{
		null(), unknown(), boolean(0), boolean(1), num(3), str("mn"), list(), emptyMap(),
		list(num(3), str("mn"), boolean(1)), object("d,g", num(3), list(unknown(), num(4))),
		list(list(list(num(3)), str("")), object("d", object("d,g", null(), list())), unknown()),
		object("d,g,j", list(num(1), num(2)), object("d", boolean(0)), object("d,g", str("mn"), unknown())),
		inLists(30, object("d", num(3))), inMaps(30, list(num(3))),
	}
}

// changes returns what a node can be changed to in one field or one item.
func changes(v api.Value) []api.Value {
	all := []api.Value{null(), unknown(), boolean(0), boolean(1), num(3), num(0), str(""), str("mn"), list(), emptyMap(), list(v), object("d", v)}
	for _, d := range []int{-1, 1, 1 << 32} {
		changed := copied(v)
		changed.Num += d
		all = append(all, changed)
	}
	for _, s := range []string{v.Str + "a", v.Str + "\x00", "a" + v.Str, strings.ToUpper(v.Str), strings.TrimSuffix(v.Str, "n"), strings.Replace(v.Str, "m", "k", 1)} {
		changed := copied(v)
		changed.Str = s
		all = append(all, changed)
	}
	for kind := api.Kind(0); kind <= 6; kind++ {
		changed := copied(v)
		changed.Kind = kind
		all = append(all, changed)
	}
	for i := 0; i <= len(v.Items); i++ {
		for _, item := range []api.Value{null(), num(3), unknown()} {
			changed := copied(v)
			changed.Items = slices.Insert(changed.Items, i, item)
			if v.Kind == 5 {
				changed.Keys = slices.Insert(changed.Keys, i, []string{"b", "e", "h", "k"}[i])
			}
			all = append(all, changed)
		}
	}
	for i := range v.Items {
		fewer := copied(v)
		fewer.Items = slices.Delete(fewer.Items, i, i+1)
		if v.Kind == 5 {
			fewer.Keys = slices.Delete(fewer.Keys, i, i+1)
			for _, key := range []string{v.Keys[i] + "a", string(v.Keys[i][0] - 1), string(v.Keys[i][0] + 1)} {
				renamed := copied(v)
				renamed.Keys[i] = key
				all = append(all, renamed)
			}
		}
		all = append(all, fewer)
	}
	return all
}

// neighbours returns the values that differ from v in one of its nodes, as far as they are valid.
func neighbours(v api.Value) []api.Value {
	all := changes(v)
	for i, item := range v.Items {
		for _, x := range neighbours(item) {
			changed := copied(v)
			changed.Items[i] = x
			all = append(all, changed)
		}
	}
	return slices.DeleteFunc(all, func(x api.Value) bool { return errorOf(x) != api.OK || same(v, x) })
}

// P7.7, P7.8 and P7.10: values that differ in one field or one item alone.
func TestComparisonsOfNeighbours(t *testing.T) {
	for _, v := range bases() {
		checkPair(t, v, copied(v))
		near := neighbours(v)
		for i, x := range near {
			checkPair(t, v, x)
			checkEach(t, x)
			if value.Equal(v, x) || value.Compare(v, x) == 0 || value.Refines(v, x) && value.Refines(x, v) {
				t.Errorf("%s and %s are the same", show(v), show(x))
			}
			checkPair(t, x, near[(i*7+3)%len(near)])
		}
	}
}

// P7.7, P7.8 and P7.10: large values that differ at their end.
func TestComparisonsOfLargeValues(t *testing.T) {
	full := func(last api.Value) api.Value { return list(append(nulls(4094), last)...) }
	nested := func(last api.Value) api.Value {
		var items []api.Value
		for range 63 {
			items = append(items, list(nulls(63)...))
		}
		return list(append(items, list(append(nulls(61), last)...))...)
	}
	wrapped := func(last api.Value) api.Value { return list(inLists(29, list(nulls(100)...)), inMaps(30, last)) }
	for _, of := range []func(api.Value) api.Value{full, nested, wrapped, func(v api.Value) api.Value { return inLists(31, v) }, func(v api.Value) api.Value { return inMaps(31, v) }} {
		for _, a := range []api.Value{null(), num(1), num(2), str(long(4096)), unknown()} {
			for _, b := range []api.Value{null(), num(1), num(2), str(long(4095) + "b"), unknown()} {
				checkPair(t, of(a), of(b))
			}
		}
		if e := value.Check(of(str(long(4096)))); e != api.OK {
			t.Errorf("Check = %d", e)
		}
	}
	checkPair(t, list(nulls(4095)...), list(nulls(4094)...))
	checkPair(t, str(long(4096)), str(long(4095)))
	checkPair(t, num(math.MaxInt), num(math.MinInt))
}

// P7.12: the order does not depend on the model.
func TestCompareIsATotalOrder(t *testing.T) {
	for _, all := range [][]api.Value{smallValues(), deepValues(), bases()} {
		rank := make([]int, len(all))
		for i, a := range all {
			for _, b := range all {
				order := value.Compare(a, b)
				if order > 0 {
					rank[i]++
				}
				if order != -value.Compare(b, a) || order < -1 || order > 1 {
					t.Errorf("Compare(%s, %s) = %d, and %d the other way", show(a), show(b), order, value.Compare(b, a))
				}
				if (order == 0) != value.Equal(a, b) {
					t.Errorf("Compare(%s, %s) = %d, and Equal is %t", show(a), show(b), order, value.Equal(a, b))
				}
			}
		}
		// An order is transitive if and only if the number of values before a value tells which of two comes first.
		for i, a := range all {
			for k, b := range all {
				if order := value.Compare(a, b); (order < 0) != (rank[i] < rank[k]) || (order > 0) != (rank[i] > rank[k]) {
					t.Errorf("Compare(%s, %s) = %d, with %d and %d values before them", show(a), show(b), order, rank[i], rank[k])
				}
			}
		}
	}
}

// P7.13
func TestRefinesIsAPartialOrder(t *testing.T) {
	for _, all := range [][]api.Value{smallValues(), deepValues()} {
		refined := make([][]int, len(all)) // by a value: the places of those that it refines
		for i, a := range all {
			if !value.Refines(a, a) || !value.Refines(a, unknown()) {
				t.Errorf("%s does not refine itself, or the unknown value", show(a))
			}
			for k, b := range all {
				if !value.Refines(a, b) {
					continue
				}
				refined[i] = append(refined[i], k)
				if value.Refines(b, a) && !value.Equal(a, b) {
					t.Errorf("%s and %s refine each other", show(a), show(b))
				}
				if value.Known(b) && !value.Equal(a, b) {
					t.Errorf("%s refines %s, which is known", show(a), show(b))
				}
			}
		}
		for i := range all {
			for _, k := range refined[i] {
				for _, l := range refined[k] {
					if !slices.Contains(refined[i], l) {
						t.Errorf("%s refines %s, which refines %s, which the first does not", show(all[i]), show(all[k]), show(all[l]))
					}
				}
			}
		}
	}
}

// filled returns v with each unknown value replaced by one of the others.
func filled(r *rand.Rand, v api.Value) api.Value {
	if v.Kind == 6 {
		return []api.Value{null(), num(1), str("a"), list(), list(unknown(), num(1)), emptyMap(), object("a", unknown()), unknown()}[r.IntN(8)]
	}
	v = copied(v)
	for i := range v.Items {
		v.Items[i] = filled(r, v.Items[i])
	}
	return v
}

// P7.10 and P7.13: random values, and what results from them.
func TestRefinesOfRandomValues(t *testing.T) {
	r := rand.New(rand.NewPCG(7, 13))
	proper := 0
	for range 20000 {
		v := random(r, 1)
		x := filled(r, v)
		y := filled(r, x)
		if !value.Refines(x, v) || !value.Refines(y, x) || !value.Refines(y, v) {
			t.Errorf("%s, %s and %s do not refine each other in turn", show(y), show(x), show(v))
		}
		if value.Refines(v, x) != same(v, x) {
			t.Errorf("Refines(%s, %s) = %t", show(v), show(x), value.Refines(v, x))
		}
		if !same(v, x) {
			proper++
		}
		checkPair(t, x, y)
		checkPair(t, v, random(r, 1))
	}
	if proper < 2000 {
		t.Errorf("only %d values contained an unknown value", proper)
	}
}
