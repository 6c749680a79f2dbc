package value_test

import (
	"math"
	"math/rand/v2"
	"slices"
	"strconv"
	"strings"
	"testing"
	"unicode/utf8"

	"provision/api"
	"provision/value"
)

// place is a node with its level.
type place struct {
	api.Value
	level int
}

// nodesOf returns the nodes of v in preorder.
func nodesOf(v api.Value, level int) []place {
	list := []place{{v, level}}
	for _, item := range v.Items {
		list = append(list, nodesOf(item, level+1)...)
	}
	return list
}

// errorOfString is the error of a string or of a key by itself.
func errorOfString(s string) api.Errno {
	if len(s) > longestString {
		return api.ErrTooLong
	}
	if !utf8.ValidString(s) {
		return api.ErrInvalid
	}
	return api.OK
}

// errorOfNode is the error of a node by itself.
func errorOfNode(v api.Value) api.Errno {
	bare := v
	switch v.Kind {
	case 0, 6:
	case 1:
		if v.Num == 1 {
			bare.Num = 0
		}
	case 2:
		bare.Num = 0
	case 3:
		bare.Str = ""
	case 4:
		bare.Items = nil
	case 5:
		if len(v.Keys) == len(v.Items) {
			bare.Keys, bare.Items = nil, nil
		}
	default:
		return api.ErrInvalid
	}
	if !same(bare, api.Value{Kind: v.Kind}) {
		return api.ErrInvalid
	}
	if v.Kind == 2 && (v.Num > greatest || v.Num < -greatest) {
		return api.ErrRange
	}
	for i, key := range v.Keys {
		if e := errorOfString(key); e != api.OK {
			return e
		}
		if i > 0 && key <= v.Keys[i-1] {
			return api.ErrInvalid
		}
	}
	return errorOfString(v.Str)
}

// errorOf is what Check returns for v.
func errorOf(v api.Value) api.Errno {
	for i, n := range nodesOf(v, 1) {
		e := errorOfNode(n.Value)
		if n.level > mostLevels {
			e = api.ErrTooDeep
		} else if i >= mostNodes {
			e = api.ErrLimit
		}
		if e != api.OK {
			return e
		}
	}
	return api.OK
}

// valueCase is a value with the error that Check returns for it.
type valueCase struct {
	v api.Value
	e api.Errno
}

func checkErrors(t *testing.T, cases []valueCase) {
	t.Helper()
	for i, c := range cases {
		if e := value.Check(c.v); e != c.e {
			t.Errorf("case %d: Check(%s) = %d; want %d", i, show(c.v), e, c.e)
		}
		if e := errorOf(c.v); e != c.e {
			t.Errorf("case %d: the model says %d for %s; want %d", i, e, show(c.v), c.e)
		}
	}
}

func long(n int) string { return strings.Repeat("a", n) }

// P7.1: each kind, and those just outside.
func TestCheckKinds(t *testing.T) {
	checkErrors(t, []valueCase{
		{null(), api.OK}, {unknown(), api.OK}, {boolean(0), api.OK}, {boolean(1), api.OK}, {num(0), api.OK}, {num(7), api.OK},
		{str(""), api.OK}, {str("aé\x00"), api.OK}, {list(), api.OK}, {emptyMap(), api.OK},
		{list(null(), num(1), list(unknown())), api.OK}, {object("a,b", num(1), object("c", null())), api.OK},
		{api.Value{Kind: 4, Items: []api.Value{}, Keys: []string{}}, api.OK}, {api.Value{Kind: 5, Items: []api.Value{}}, api.OK},
		{api.Value{Kind: 0, Items: []api.Value{}, Keys: []string{}}, api.OK}, {api.Value{Kind: 5, Keys: []string{}}, api.OK},
		{api.Value{Kind: -1}, api.ErrInvalid}, {api.Value{Kind: 7}, api.ErrInvalid}, {api.Value{Kind: 8}, api.ErrInvalid},
		{api.Value{Kind: math.MaxInt}, api.ErrInvalid}, {api.Value{Kind: math.MinInt}, api.ErrInvalid}, {api.Value{Kind: 256}, api.ErrInvalid},
		{list(api.Value{Kind: 7}), api.ErrInvalid}, {object("a", api.Value{Kind: -1}), api.ErrInvalid},
	})
}

// P7.1: each field that a kind does not use.
func TestCheckUnusedFields(t *testing.T) {
	used := map[string][]api.Kind{"Num": {1, 2}, "Str": {3}, "Items": {4}, "Keys": {}, "both": {5}, "more keys": {}, "more items": {}}
	for kind := api.Kind(-1); kind <= 7; kind++ {
		for name, v := range map[string]api.Value{
			"Num": {Num: 1}, "Str": {Str: "a"}, "Items": {Items: nulls(1)}, "Keys": {Keys: []string{"a"}},
			"both":      {Keys: []string{"a", "b"}, Items: nulls(2)},
			"more keys": {Keys: []string{"a", "b"}, Items: nulls(1)}, "more items": {Keys: []string{"a"}, Items: nulls(2)},
		} {
			v.Kind = kind
			want := api.ErrInvalid
			if slices.Contains(used[name], kind) {
				want = api.OK
			}
			checkErrors(t, []valueCase{{v, want}, {list(num(1), v), want}, {object("a", v), want}, {inMaps(30, v), want}})
		}
	}
	for _, n := range []int{-1, 2, 1 << 60} {
		checkErrors(t, []valueCase{
			{api.Value{Kind: 0, Num: n}, api.ErrInvalid}, {api.Value{Kind: 3, Num: n}, api.ErrInvalid}, {api.Value{Kind: 3, Num: n, Str: "a"}, api.ErrInvalid},
			{api.Value{Kind: 4, Num: n}, api.ErrInvalid}, {api.Value{Kind: 5, Num: n}, api.ErrInvalid}, {api.Value{Kind: 6, Num: n}, api.ErrInvalid},
		})
	}
	checkErrors(t, []valueCase{
		{api.Value{Kind: 4, Items: nulls(1), Str: "a"}, api.ErrInvalid}, {api.Value{Kind: 4, Items: nulls(1), Keys: []string{"a"}}, api.ErrInvalid},
		{api.Value{Kind: 5, Items: nulls(1), Keys: []string{"a"}, Str: "a"}, api.ErrInvalid}, {api.Value{Kind: 5, Items: nulls(1), Keys: []string{"a"}, Num: 1}, api.ErrInvalid},
		{api.Value{Kind: 1, Num: 1, Str: "a"}, api.ErrInvalid}, {api.Value{Kind: 1, Num: 1, Items: nulls(1)}, api.ErrInvalid}, {api.Value{Kind: 1, Num: 1, Keys: []string{"a"}}, api.ErrInvalid},
		{api.Value{Kind: 5, Keys: []string{""}}, api.ErrInvalid}, {api.Value{Kind: 5, Items: nulls(1)}, api.ErrInvalid},
	})
}

// P7.1: bools and numbers.
func TestCheckNumbers(t *testing.T) {
	for n, want := range map[int]api.Errno{0: api.OK, 1: api.OK, -1: api.ErrInvalid, 2: api.ErrInvalid, 3: api.ErrInvalid, 1 << 32: api.ErrInvalid, 1<<32 + 1: api.ErrInvalid, greatest + 1: api.ErrInvalid, math.MaxInt: api.ErrInvalid, math.MinInt: api.ErrInvalid} {
		checkErrors(t, []valueCase{{boolean(n), want}, {list(boolean(n)), want}})
	}
	for n, want := range map[int]api.Errno{
		0: api.OK, 1: api.OK, -1: api.OK, 2: api.OK, greatest - 1: api.OK, greatest: api.OK, -greatest: api.OK, 1 - greatest: api.OK,
		greatest + 1: api.ErrRange, -greatest - 1: api.ErrRange, math.MaxInt: api.ErrRange, math.MinInt: api.ErrRange,
	} {
		checkErrors(t, []valueCase{{num(n), want}, {list(num(n)), want}, {object("a", num(n)), want}})
	}
}

// stringsByError returns strings, and the error of each.
func stringsByError() map[string]api.Errno {
	return map[string]api.Errno{
		"": api.OK, "a": api.OK, "\x00": api.OK, "\x7f": api.OK, "é€😀": api.OK, "\ufffd": api.OK, "\"\\\n": api.OK,
		long(4095): api.OK, long(4096): api.OK, long(4097): api.ErrTooLong, long(100000): api.ErrTooLong,
		strings.Repeat("é", 2048): api.OK, strings.Repeat("é", 2049): api.ErrTooLong, "a" + strings.Repeat("é", 2048): api.ErrTooLong,
		"\xff": api.ErrInvalid, "\xc3": api.ErrInvalid, "a\x80b": api.ErrInvalid, "\xc0\x80": api.ErrInvalid, "\xed\xa0\x80": api.ErrInvalid, "\xf4\x90\x80\x80": api.ErrInvalid,
		long(4095) + "\xff": api.ErrInvalid, long(4096) + "\xff": api.ErrTooLong, "\xff" + long(4096): api.ErrTooLong, "\xff" + long(4095): api.ErrInvalid,
		long(4095) + "é": api.ErrTooLong,
	}
}

// P7.1: strings, and keys by themselves.
func TestCheckStrings(t *testing.T) {
	for s, e := range stringsByError() {
		checkErrors(t, []valueCase{
			{str(s), e}, {list(num(1), str(s)), e},
			{api.Value{Kind: 5, Keys: []string{s}, Items: nulls(1)}, e},
			{list(api.Value{Kind: 5, Keys: []string{s}, Items: nulls(1)}), e},
		})
	}
}

// P7.1: keys beside other keys.
func TestCheckKeys(t *testing.T) {
	keyed := func(keys ...string) api.Value { return api.Value{Kind: 5, Keys: keys, Items: nulls(len(keys))} }
	checkErrors(t, []valueCase{
		{keyed("a", "b"), api.OK}, {keyed("", "a"), api.OK}, {keyed("", "\x00"), api.OK}, {keyed("a", "a\x00"), api.OK}, {keyed("a", "aa"), api.OK}, {keyed("B", "a"), api.OK},
		{keyed("z", "é"), api.OK}, {keyed("\uffff", "\U00010000"), api.OK}, {keyed("a", "b", "c", "d"), api.OK}, {keyed("10", "9"), api.OK},
		{keyed("a", "a"), api.ErrInvalid}, {keyed("", ""), api.ErrInvalid}, {keyed("b", "a"), api.ErrInvalid}, {keyed("a", ""), api.ErrInvalid}, {keyed("aa", "a"), api.ErrInvalid},
		{keyed("a", "B"), api.ErrInvalid}, {keyed("é", "z"), api.ErrInvalid}, {keyed("9", "10"), api.ErrInvalid},
		{keyed("a", "b", "b"), api.ErrInvalid}, {keyed("a", "b", "a"), api.ErrInvalid}, {keyed("a", "c", "b", "d"), api.ErrInvalid},
		{keyed("a", long(4096)), api.OK}, {keyed(long(4095), long(4096)), api.OK}, {keyed("a", long(4097)), api.ErrTooLong}, {keyed(long(4097), "b"), api.ErrTooLong},
		{keyed("a", "b\xff"), api.ErrInvalid}, {keyed("\xff", long(4097)), api.ErrInvalid}, {keyed(long(4097), "\xff"), api.ErrTooLong},
		// A key is examined by itself before it is compared, and before the next one.
		{keyed("b", long(4097)), api.ErrTooLong}, {keyed("b", "a", long(4097)), api.ErrInvalid}, {keyed("b", long(4097), "a"), api.ErrTooLong}, {keyed("b", "b", long(4097)), api.ErrInvalid},
		{keyed(long(4097), long(4097)), api.ErrTooLong},
	})
}

// P7.1: the order of the errors of one node.
func TestCheckTwoErrorsOfANode(t *testing.T) {
	tooLong, wrong := long(4097), "\xff"
	checkErrors(t, []valueCase{
		{api.Value{Kind: 2, Num: greatest + 1, Str: "a"}, api.ErrInvalid}, {api.Value{Kind: 2, Num: -greatest - 1, Items: nulls(1)}, api.ErrInvalid}, {api.Value{Kind: 2, Num: greatest + 1, Keys: []string{tooLong}}, api.ErrInvalid},
		{api.Value{Kind: 3, Str: tooLong, Num: 1}, api.ErrInvalid}, {api.Value{Kind: 3, Str: tooLong, Num: greatest + 1}, api.ErrInvalid}, {api.Value{Kind: 3, Str: tooLong, Items: nulls(1)}, api.ErrInvalid}, {api.Value{Kind: 3, Str: tooLong, Keys: []string{"a"}}, api.ErrInvalid},
		{str(wrong + tooLong), api.ErrTooLong}, {str(tooLong + wrong), api.ErrTooLong},
		{api.Value{Kind: 0, Str: tooLong}, api.ErrInvalid}, {api.Value{Kind: 7, Str: tooLong}, api.ErrInvalid}, {api.Value{Kind: 7, Num: greatest + 1}, api.ErrInvalid}, {api.Value{Kind: 1, Num: greatest + 1}, api.ErrInvalid},
		{api.Value{Kind: 4, Str: tooLong}, api.ErrInvalid}, {api.Value{Kind: 4, Keys: []string{tooLong}, Items: nulls(1)}, api.ErrInvalid}, {api.Value{Kind: 0, Keys: []string{tooLong}, Items: nulls(1)}, api.ErrInvalid},
		{api.Value{Kind: 5, Keys: []string{tooLong}}, api.ErrInvalid}, {api.Value{Kind: 5, Keys: []string{tooLong}, Items: nulls(2)}, api.ErrInvalid},
		{api.Value{Kind: 5, Keys: []string{tooLong}, Items: nulls(1), Num: 1}, api.ErrInvalid}, {api.Value{Kind: 5, Keys: []string{tooLong}, Items: nulls(1), Str: "a"}, api.ErrInvalid},
		// The level is examined before all others.
		{inLists(32, api.Value{Kind: 7}), api.ErrTooDeep}, {inLists(32, num(greatest+1)), api.ErrTooDeep}, {inMaps(32, str(wrong)), api.ErrTooDeep}, {inMaps(32, str(tooLong)), api.ErrTooDeep},
		{inLists(31, api.Value{Kind: 7}), api.ErrInvalid}, {inLists(31, num(greatest+1)), api.ErrRange}, {inMaps(31, str(wrong)), api.ErrInvalid}, {inMaps(31, str(tooLong)), api.ErrTooLong},
		// The number of nodes is examined after the level, and before what the node is.
		{list(append(nulls(4095), api.Value{Kind: 7})...), api.ErrLimit}, {list(append(nulls(4095), num(greatest+1))...), api.ErrLimit}, {list(append(nulls(4095), str(tooLong))...), api.ErrLimit},
		{list(append(nulls(4094), api.Value{Kind: 7})...), api.ErrInvalid}, {list(append(nulls(4094), num(greatest+1))...), api.ErrRange}, {list(append(nulls(4094), str(tooLong))...), api.ErrTooLong},
		{list(append(nulls(4063), inLists(31, null()))...), api.ErrTooDeep}, {list(append(nulls(4064), inLists(31, null()))...), api.ErrTooDeep}, {list(append(nulls(4065), inLists(31, null()))...), api.ErrLimit},
		{list(append(nulls(4064), inLists(31, api.Value{Kind: 7}))...), api.ErrTooDeep},
		{list(append(nulls(4064), inLists(30, null()))...), api.OK}, {list(append(nulls(4065), inLists(30, null()))...), api.ErrLimit},
	})
}

// P7.1: the errors of a node come before those of its items.
func TestCheckNodesBeforeTheirItems(t *testing.T) {
	tooLong, bad := long(4097), num(greatest+1)
	checkErrors(t, []valueCase{
		{api.Value{Kind: 5, Keys: []string{tooLong}, Items: []api.Value{bad}}, api.ErrTooLong}, {api.Value{Kind: 5, Keys: []string{"b", "a"}, Items: []api.Value{bad, bad}}, api.ErrInvalid},
		{api.Value{Kind: 5, Keys: []string{"a", tooLong}, Items: []api.Value{bad, bad}}, api.ErrTooLong}, {api.Value{Kind: 5, Keys: []string{"a"}, Items: []api.Value{bad, bad}}, api.ErrInvalid},
		{api.Value{Kind: 4, Num: 1, Items: []api.Value{bad}}, api.ErrInvalid}, {api.Value{Kind: 7, Items: []api.Value{bad}}, api.ErrInvalid}, {api.Value{Kind: 2, Num: 1, Items: []api.Value{bad}}, api.ErrInvalid},
		{api.Value{Kind: 4, Num: 1, Items: []api.Value{inLists(40, null())}}, api.ErrInvalid}, {api.Value{Kind: 4, Num: 1, Items: nulls(5000)}, api.ErrInvalid},
		{api.Value{Kind: 5, Keys: []string{"a"}, Items: nulls(5000)}, api.ErrInvalid},
		{list(list(bad), str(tooLong)), api.ErrRange}, {list(list(str(tooLong)), bad), api.ErrTooLong}, {list(list(list(list(bad))), str(tooLong)), api.ErrRange},
		{object("a,b", object("c", str(tooLong)), bad), api.ErrTooLong}, {object("a,b", object("c", bad), str(tooLong)), api.ErrRange},
	})
}

// P7.1: levels.
func TestCheckLevels(t *testing.T) {
	bad := num(greatest + 1)
	checkErrors(t, []valueCase{
		{inLists(31, null()), api.OK}, {inLists(32, null()), api.ErrTooDeep}, {inLists(31, list()), api.OK}, {inLists(32, list()), api.ErrTooDeep},
		{inMaps(31, null()), api.OK}, {inMaps(32, null()), api.ErrTooDeep}, {inMaps(31, emptyMap()), api.OK}, {inMaps(32, emptyMap()), api.ErrTooDeep},
		{inMaps(16, inLists(15, unknown())), api.OK}, {inMaps(16, inLists(16, unknown())), api.ErrTooDeep}, {inLists(16, inMaps(15, unknown())), api.OK},
		{inLists(33, null()), api.ErrTooDeep}, {inLists(1000, null()), api.ErrTooDeep},
		{list(inLists(30, null()), inLists(30, null())), api.OK}, {list(inLists(30, null()), inLists(31, null())), api.ErrTooDeep}, {list(inLists(31, null()), null()), api.ErrTooDeep},
		{inLists(31, list(null(), bad)), api.ErrTooDeep},
		// Another error before or behind it.
		{list(bad, inLists(31, null())), api.ErrRange}, {list(inLists(31, null()), bad), api.ErrTooDeep},
		{inLists(30, list(bad, list(null()))), api.ErrRange}, {inLists(30, list(list(null()), bad)), api.ErrTooDeep},
		{inLists(31, list(bad)), api.ErrTooDeep}, {inLists(30, object("b,a", list(null()), null())), api.ErrInvalid},
	})
}

// P7.1 and P7.11: numbers of nodes.
func TestCheckNumbersOfNodes(t *testing.T) {
	bad := num(greatest + 1)
	with := func(n, at int) api.Value {
		items := nulls(n)
		items[at] = bad
		return list(items...)
	}
	var keys []string
	for i := range 4096 {
		keys = append(keys, strconv.Itoa(10000+i))
	}
	square := func(n, last int) api.Value {
		var items []api.Value
		for range n {
			items = append(items, list(nulls(63)...))
		}
		return list(append(items, list(nulls(last)...))...)
	}
	checkErrors(t, []valueCase{
		{list(nulls(4095)...), api.OK}, {list(nulls(4096)...), api.ErrLimit}, {list(nulls(5000)...), api.ErrLimit}, {list(nulls(100000)...), api.ErrLimit},
		{api.Value{Kind: 5, Keys: keys[:4095], Items: nulls(4095)}, api.OK}, {api.Value{Kind: 5, Keys: keys, Items: nulls(4096)}, api.ErrLimit},
		{square(63, 62), api.OK}, {square(63, 63), api.ErrLimit}, {square(64, 0), api.ErrLimit}, {list(list(nulls(4094)...)), api.OK}, {list(list(nulls(4095)...)), api.ErrLimit}, {list(list(nulls(4094)...), null()), api.ErrLimit},
		{list(list(nulls(2047)...), list(nulls(2046)...)), api.OK}, {list(list(nulls(2047)...), list(nulls(2047)...)), api.ErrLimit},
		// Another error before or behind the last one.
		{with(4096, 0), api.ErrRange}, {with(4096, 4094), api.ErrRange}, {with(4096, 4095), api.ErrLimit}, {with(4095, 4094), api.ErrRange},
		{with(4097, 4096), api.ErrLimit}, {with(4097, 4094), api.ErrRange}, {with(10000, 9999), api.ErrLimit},
		{list(list(nulls(4094)...), bad), api.ErrLimit}, {list(bad, list(nulls(4094)...)), api.ErrRange},
		{list(append(nulls(4095), inLists(50, bad))...), api.ErrLimit}, {list(append(nulls(4000), inLists(50, bad))...), api.ErrTooDeep},
	})
	for _, c := range []valueCase{{v: list(nulls(4095)...)}, {v: square(63, 62)}} {
		if n := value.Nodes(c.v); n != mostNodes {
			t.Errorf("Nodes(%s) = %d", show(c.v), n)
		}
	}
}

// faults returns nodes, each with one error of its own.
func faults() []api.Value {
	return []api.Value{
		{Kind: 7}, {Kind: -1}, {Kind: 0, Num: 1}, {Kind: 6, Str: "a"}, {Kind: 1, Num: 2}, num(greatest + 1), num(-greatest - 1), str(long(4097)), str("\xff"),
		object("b,a", null(), null()), object("a,a", num(1), num(2)), object(long(4097), null()), object("\xff", null()), {Kind: 5, Keys: []string{"a"}}, {Kind: 5, Items: nulls(1)}, inLists(32, null()), list(nulls(4096)...),
	}
}

// P7.1: of two errors at any two places, the first one in preorder is returned.
func TestCheckTwoErrorsInPreorder(t *testing.T) {
	base := list(null(), list(null(), object("a,b,c", null(), list(null(), null()), null()), null()), object("x,y", list(list(list(null()))), null()), null())
	var leaves [][]int
	var find func(v api.Value, path []int)
	find = func(v api.Value, path []int) {
		if len(v.Items) == 0 {
			leaves = append(leaves, slices.Clone(path))
		}
		for i, item := range v.Items {
			find(item, append(path, i))
		}
	}
	find(base, nil)
	set := func(v api.Value, path []int, x api.Value) api.Value {
		v = copied(v)
		at := &v
		for _, i := range path {
			at = &at.Items[i]
		}
		*at = x
		return v
	}
	if len(leaves) != 10 {
		t.Fatal(len(leaves))
	}
	for i, p := range leaves {
		for _, f := range faults() {
			one := set(base, p, f)
			checkErrors(t, []valueCase{{one, errorOf(one)}})
			for _, q := range leaves[i+1:] {
				for _, g := range faults() {
					two := set(one, q, g)
					if e := value.Check(two); e != value.Check(one) {
						t.Errorf("Check = %d; want the error of %v before that of %v", e, show(f), show(g))
					}
				}
			}
		}
	}
}

// random returns a value that is not always valid.
func random(r *rand.Rand, level int) api.Value {
	kind := r.IntN(7)
	if level > 4 {
		kind = []int{0, 1, 2, 3, 6}[r.IntN(5)]
	}
	v := api.Value{Kind: api.Kind(kind)}
	switch kind {
	case 1:
		v.Num = r.IntN(2)
	case 2:
		v.Num = []int{0, 1, -1, 5, greatest, -greatest}[r.IntN(6)]
	case 3:
		v.Str = []string{"", "a", "b", "ab", "é"}[r.IntN(5)]
	case 4, 5:
		for i := range r.IntN(4) {
			v.Items = append(v.Items, random(r, level+1))
			if kind == 5 {
				v.Keys = append(v.Keys, string(rune('a'+3*i+r.IntN(3))))
			}
		}
	}
	return v
}

// damaged returns v with a change at some of its nodes.
func damaged(r *rand.Rand, v api.Value) api.Value {
	v = copied(v)
	for i := range v.Items {
		v.Items[i] = damaged(r, v.Items[i])
	}
	switch r.IntN(60) {
	case 0:
		v.Kind = api.Kind(r.IntN(10) - 1)
	case 1:
		v.Num = []int{-1, 0, 1, 2, greatest + 1, -greatest - 1}[r.IntN(6)]
	case 2:
		v.Str = []string{"", "x", "\xff", long(4097)}[r.IntN(4)]
	case 3:
		v.Keys = append(v.Keys, []string{"", "a", "zz", "\xff", long(4097)}[r.IntN(5)])
	case 4:
		v.Items = append(v.Items, null())
	case 5:
		v.Keys, v.Items = append(v.Keys, "q"), append(v.Items, faults()[r.IntN(len(faults()))])
	case 6:
		slices.Reverse(v.Keys)
	case 7:
		return faults()[r.IntN(len(faults()))]
	}
	return v
}

// P7.1: random values.
func TestCheckRandomValues(t *testing.T) {
	r := rand.New(rand.NewPCG(7, 1))
	counts := map[api.Errno]int{}
	for range 40000 {
		v := random(r, 1)
		if e := value.Check(v); e != api.OK {
			t.Fatalf("Check(%s) = %d", show(v), e)
		}
		d := damaged(r, v)
		want := errorOf(d)
		counts[want]++
		if e := value.Check(d); e != want {
			t.Errorf("Check(%s) = %d; want %d", show(d), e, want)
		}
	}
	for _, e := range []api.Errno{api.OK, api.ErrInvalid, api.ErrRange, api.ErrTooLong, api.ErrTooDeep, api.ErrLimit} {
		if counts[e] < 50 {
			t.Errorf("only %d values with the error %d", counts[e], e)
		}
	}
}
