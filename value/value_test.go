package value_test

import (
	"math"
	"math/rand/v2"
	"slices"
	"strconv"
	"strings"
	"testing"

	"provision/api"
	"provision/value"
)

// P7.2
func TestAtoms(t *testing.T) {
	check := func(name string, got, want api.Value) {
		t.Helper()
		if !same(got, want) {
			t.Errorf("%s = %s; want %s", name, show(got), show(want))
		}
	}
	check("Null", value.Null(), api.Value{Kind: api.KindNull})
	check("Unknown", value.Unknown(), api.Value{Kind: api.KindUnknown})
	check("Bool(true)", value.Bool(true), api.Value{Kind: api.KindBool, Num: 1})
	check("Bool(false)", value.Bool(false), api.Value{Kind: api.KindBool})
	for _, n := range []int{0, 1, -1, 2, 120, greatest, -greatest, greatest + 1, -greatest - 1, math.MaxInt, math.MinInt} {
		check("Number", value.Number(n), api.Value{Kind: api.KindNumber, Num: n})
	}
	for s := range stringsByError() {
		check("String", value.String(s), api.Value{Kind: api.KindString, Str: s})
	}
}

// oddValues returns values that are not valid.
func oddValues() []api.Value {
	return append(faults(), api.Value{Kind: 3, Num: 5, Str: "x", Keys: []string{"b", "a", "b"}, Items: nulls(2)},
		list(api.Value{Kind: -9, Items: []api.Value{str("\xff"), {Kind: 4, Keys: []string{"k"}}}}), object("b,a,b", num(1), num(2)), inLists(100, str("\xc3")), inMaps(100, num(greatest+1)))
}

// P7.3
func TestList(t *testing.T) {
	for _, items := range [][]api.Value{
		nil, {}, {null()}, {num(1), num(2)}, {num(2), num(1)}, {num(1), num(1)}, {list(), list(num(1)), unknown()}, {object("a,b", num(1), list(str("x"))), boolean(1)}, nulls(4095), nulls(5000), oddValues(),
	} {
		got := value.List(items...)
		if want := (api.Value{Kind: api.KindList, Items: items}); !same(got, want) {
			t.Errorf("List = %s; want %s", show(got), show(want))
		}
	}
	if got := value.List(); !same(got, api.Value{Kind: api.KindList}) || value.Check(got) != api.OK {
		t.Errorf("List() = %s", show(got))
	}
	if got := value.List(value.Number(1), value.String("a"), value.List()); !same(got, list(num(1), str("a"), list())) {
		t.Errorf("List = %s", show(got))
	}
	for _, v := range oddValues() {
		if got := value.List(v); !same(got, list(v)) {
			t.Errorf("List(%s) = %s", show(v), show(got))
		}
	}
}

// permutations calls use for every order of the numbers below n.
func permutations(n int, use func([]int)) {
	var extend func(order []int)
	extend = func(order []int) {
		if len(order) == n {
			use(order)
			return
		}
		for i := range n {
			if !slices.Contains(order, i) {
				extend(append(slices.Clone(order), i))
			}
		}
	}
	extend(nil)
}

// someKeys returns keys in ascending order, valid and not.
func someKeys() []string {
	return []string{"", "\x00", "a", "aa", "aab", "ab", "b", long(4096), "é", "\xff"}
}

// P7.4: keys in any order.
func TestMapOfKeysInAnyOrder(t *testing.T) {
	all := slices.Sorted(slices.Values(someKeys()))
	for n := range 6 {
		for start := 0; start+n <= len(all); start++ {
			want := api.Value{Kind: api.KindMap}
			for i, key := range all[start : start+n] {
				want.Keys, want.Items = append(want.Keys, key), append(want.Items, list(num(i)))
			}
			permutations(n, func(order []int) {
				var keys []string
				var items []api.Value
				for _, i := range order {
					keys, items = append(keys, want.Keys[i]), append(items, want.Items[i])
				}
				if got, e := value.Map(keys, items); e != api.OK || !same(got, want) {
					t.Errorf("Map of %.50q = %s, %d", keys, show(got), e)
				}
			})
		}
	}
	for range 2 {
		if got, e := value.Map(nil, []api.Value{}); e != api.OK || !same(got, emptyMap()) {
			t.Errorf("Map of nothing = %s, %d", show(got), e)
		}
	}
	if got, e := value.Map([]string{"b", "a"}, []api.Value{num(1), num(2)}); e != api.OK || !same(got, object("a,b", num(2), num(1))) {
		t.Errorf("Map = %s, %d", show(got), e)
	}
}

// P7.4: many keys, and items that are not valid.
func TestMapDoesNotCheck(t *testing.T) {
	var keys []string
	var items []api.Value
	for i := range 6000 {
		keys, items = append(keys, strconv.Itoa(100000+(i*7919)%6000)), append(items, num((i*7919)%6000))
	}
	got, e := value.Map(keys, items)
	if e != api.OK || len(got.Keys) != 6000 || len(got.Items) != 6000 || value.Check(got) != api.ErrLimit {
		t.Fatalf("Map of 6000 keys = %s, %d", show(got), e)
	}
	for i, key := range got.Keys {
		if key != strconv.Itoa(100000+i) || got.Items[i].Num != i {
			t.Fatalf("the entry %d is %q and %s", i, key, show(got.Items[i]))
		}
	}
	for _, v := range oddValues() {
		if got, e := value.Map([]string{"\xff", long(5000)}, []api.Value{v, null()}); e != api.OK || !same(got, api.Value{Kind: 5, Keys: []string{long(5000), "\xff"}, Items: []api.Value{null(), v}}) {
			t.Errorf("Map of %s = %s, %d", show(v), show(got), e)
		}
	}
}

// P7.4: errors.
func TestMapErrors(t *testing.T) {
	for _, c := range []struct {
		keys  string
		items int
		want  api.Errno
	}{
		{"a,a", 2, api.ErrDuplicate}, {"a,b,a", 3, api.ErrDuplicate}, {"b,a,a", 3, api.ErrDuplicate}, {"a,a,b", 3, api.ErrDuplicate}, {"b,b,a", 3, api.ErrDuplicate}, {",", 2, api.ErrDuplicate}, {"a,,b,", 4, api.ErrDuplicate}, {"\xff,a,\xff", 3, api.ErrDuplicate},
		{"a,a,a", 3, api.ErrDuplicate}, {"d,c,b,a,d", 5, api.ErrDuplicate}, {"a,A,a", 3, api.ErrDuplicate},
		{"a,b", 1, api.ErrInvalid}, {"a,b", 3, api.ErrInvalid}, {"a", 0, api.ErrInvalid}, {"a", 2, api.ErrInvalid}, {"", 0, api.ErrInvalid},
		// The numbers are compared first.
		{"a,a", 1, api.ErrInvalid}, {"a,a", 3, api.ErrInvalid}, {"a,a", 0, api.ErrInvalid},
	} {
		items := nulls(c.items)
		for i := range items {
			items[i] = num(1)
		}
		if got, e := value.Map(strings.Split(c.keys, ","), items); e != c.want || !same(got, api.Value{}) {
			t.Errorf("Map of %q and %d items = %s, %d; want %d", c.keys, c.items, show(got), e, c.want)
		}
	}
	if got, e := value.Map(nil, nulls(1)); e != api.ErrInvalid || !same(got, api.Value{}) {
		t.Errorf("Map of one item = %s, %d", show(got), e)
	}
	for _, keys := range []string{"a,A", "a,aa", "a,a ", ",\x00", "\u00e1,a\u0301", "a,\u00e1"} {
		if _, e := value.Map(strings.Split(keys, ","), nulls(2)); e != api.OK {
			t.Errorf("Map of %q = %d", keys, e)
		}
	}
}

// maps returns valid maps whose keys are some of someKeys.
func maps() []api.Value {
	keys := []string{"", "a", "aa", "ab", "b", "é"}
	var all []api.Value
	for set := range 1 << len(keys) {
		m := api.Value{Kind: 5}
		for i, key := range keys {
			if set>>i&1 == 1 {
				m.Keys, m.Items = append(m.Keys, key), append(m.Items, list(str(key), num(i), object("in", unknown())))
			}
		}
		all = append(all, m)
	}
	return all
}

// noMaps returns a valid value of each kind that is not a map.
func noMaps() []api.Value {
	return []api.Value{null(), unknown(), boolean(0), boolean(1), num(0), num(1), str(""), str("a"), list(), list(num(1)), list(str("a"), num(1)), list(object("a", num(1)))}
}

// P7.5
func TestGet(t *testing.T) {
	for _, m := range maps() {
		for _, key := range append(someKeys(), "A", "aaa", "c", "e", "zz", "\x00a", "in") {
			want, has := api.Value{}, false
			for i, k := range m.Keys {
				if k == key {
					want, has = m.Items[i], true
				}
			}
			if got, is := value.Get(m, key); is != has || !same(got, want) {
				t.Errorf("Get(%s, %.20q) = %s, %t", show(m), key, show(got), is)
			}
		}
	}
	for _, v := range noMaps() {
		for _, key := range []string{"", "a", "0", "1"} {
			if got, is := value.Get(v, key); is || !same(got, api.Value{}) {
				t.Errorf("Get(%s, %q) = %s, %t", show(v), key, show(got), is)
			}
		}
	}
	for _, x := range []api.Value{null(), unknown(), boolean(1), num(-5), str("x"), list(num(1)), object("a", num(2)), inLists(30, num(1))} {
		if got, is := value.Get(object("a", x), "a"); !is || !same(got, x) {
			t.Errorf("Get of %s = %s, %t", show(x), show(got), is)
		}
	}
	if got, is := value.Get(object("a", num(1)), "a"); !is || !same(got, num(1)) {
		t.Errorf("Get = %s, %t", show(got), is)
	}
}

// with returns the map m in which the key has the item x, by the definition.
func with(m api.Value, key string, x api.Value) api.Value {
	entries := map[string]api.Value{key: x}
	for i, k := range m.Keys {
		if k != key {
			entries[k] = m.Items[i]
		}
	}
	result := api.Value{Kind: 5}
	for k := range entries {
		result.Keys = append(result.Keys, k)
	}
	slices.Sort(result.Keys)
	for _, k := range result.Keys {
		result.Items = append(result.Items, entries[k])
	}
	return result
}

// P7.6 and P7.14
func TestPut(t *testing.T) {
	for _, m := range maps() {
		before := copied(m)
		for _, key := range append(someKeys(), "A", "aaa", "c", "zz", long(4097)) {
			for _, x := range []api.Value{null(), num(5), list(str("new")), object("n", unknown())} {
				got := value.Put(m, key, x)
				if want := with(m, key, x); !same(got, want) {
					t.Errorf("Put(%s, %.20q, %s) = %s; want %s", show(m), key, show(x), show(got), show(want))
				}
				if !same(m, before) {
					t.Fatalf("%s became %s", show(before), show(m))
				}
				for _, k := range append(someKeys(), key, "A", "c") {
					old, had := value.Get(m, k)
					if k == key {
						old, had = x, true
					}
					if item, has := value.Get(got, k); has != had || !same(item, old) {
						t.Errorf("Get(Put(%s, %.20q, %s), %.20q) = %s, %t", show(m), key, show(x), k, show(item), has)
					}
				}
			}
		}
	}
	if got := value.Put(emptyMap(), "a", num(2)); !same(got, object("a", num(2))) {
		t.Errorf("Put into the empty map = %s", show(got))
	}
	if got := value.Put(object("a,b,c", num(1), num(2), num(3)), "b", num(9)); !same(got, object("a,b,c", num(1), num(9), num(3))) {
		t.Errorf("Put of a key that is there = %s", show(got))
	}
}

// P7.6 and P7.14: results that are not valid.
func TestPutBeyondTheLimits(t *testing.T) {
	var full api.Value
	for i := range 4095 {
		full.Keys = append(full.Keys, strconv.Itoa(10000+i))
	}
	full.Kind, full.Items = 5, nulls(4095)
	large := list(nulls(4095)...)
	for _, c := range []struct {
		m    api.Value
		key  string
		x    api.Value
		want api.Errno
	}{
		{full, "1", num(1), api.ErrLimit}, {full, "10000", num(1), api.OK}, {full, "14094", large, api.ErrLimit}, {full, "9", large, api.ErrLimit}, {full, "9", inMaps(31, null()), api.ErrLimit},
		{object("a", num(1)), "b", inLists(31, num(7)), api.ErrTooDeep}, {object("a", num(1)), "b", inLists(30, num(7)), api.OK}, {emptyMap(), "b", large, api.ErrLimit},
		{object("a", num(1)), long(4097), num(2), api.ErrTooLong}, {object("a", num(1)), "\xff", num(2), api.ErrInvalid}, {object("a", inMaps(30, num(3))), "0", inMaps(31, str("deep")), api.ErrTooDeep},
	} {
		if e := value.Check(c.m); e != api.OK || value.Check(c.x) != api.OK {
			t.Fatalf("%s or %s is not valid", show(c.m), show(c.x))
		}
		got := value.Put(c.m, c.key, c.x)
		if !same(got, with(c.m, c.key, c.x)) || value.Check(got) != c.want {
			t.Errorf("Put(%s, %.20q, %s) = %s with the error %d", show(c.m), c.key, show(c.x), show(got), value.Check(got))
		}
		if item, has := value.Get(got, c.key); !has || !same(item, c.x) {
			t.Errorf("Get after Put(%s, %.20q, %s) = %s, %t", show(c.m), c.key, show(c.x), show(item), has)
		}
		for i, key := range c.m.Keys {
			if item, has := value.Get(got, key); key != c.key && (!has || !same(item, c.m.Items[i])) {
				t.Fatalf("Get(%q) after Put = %s, %t", key, show(item), has)
			}
		}
	}
}

// P7.14: many keys, one after the other.
func TestPutAgainAndAgain(t *testing.T) {
	r := rand.New(rand.NewPCG(7, 14))
	m, entries := emptyMap(), map[string]int{}
	for i := range 600 {
		key := strconv.Itoa(r.IntN(200))
		m, entries[key] = value.Put(m, key, num(i)), i
		if value.Check(m) != api.OK || len(m.Keys) != len(entries) {
			t.Fatalf("after %d times: %s", i, show(m))
		}
	}
	for key, n := range entries {
		if got, has := value.Get(m, key); !has || !same(got, num(n)) {
			t.Errorf("Get(%q) = %s, %t; want %d", key, show(got), has, n)
		}
	}
}
