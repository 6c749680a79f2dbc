package path_test

import (
	"math/rand/v2"
	"slices"
	"strings"
	"testing"

	"provision/api"
	"provision/path"
	"provision/value"
)

// sample is {"": true, "a": [1, 2], "b c": {"k": unknown, "l": []}, "n": null, "u": unknown}.
func sample() api.Value {
	return object(",a,b c,n,u", yes(), list(num(1), num(2)), object("k,l", unknown(), list()), null(), unknown())
}

func checkGet(t *testing.T, v api.Value, p []api.PathStep, want api.Value, wantErr api.Errno) {
	t.Helper()
	if got, e := path.Get(v, p); e != wantErr || !same(got, want) {
		t.Errorf("Get(%s, %s) = %s, %d; want %s, %d", show(v), shown(p), show(got), e, show(want), wantErr)
	}
	if got, e := valueAt(v, p); e != wantErr || !same(got, want) {
		t.Errorf("the model says %s, %d for %s, %s", show(got), e, show(v), shown(p))
	}
}

// P8.4: values that are there.
func TestGetValues(t *testing.T) {
	v := sample()
	for _, c := range []located{
		{nil, v}, {steps(""), yes()}, {steps("a"), list(num(1), num(2))}, {steps("a", 0), num(1)}, {steps("a", 1), num(2)}, {steps("b c"), v.Items[2]},
		{steps("b c", "k"), unknown()}, {steps("b c", "l"), list()}, {steps("n"), null()}, {steps("u"), unknown()},
	} {
		checkGet(t, v, c.p, c.v, api.OK)
		checkGet(t, list(null(), v), slices.Concat(steps(1), c.p), c.v, api.OK)
		checkGet(t, inMaps(20, v), slices.Concat(repeated(20, named("k")), c.p), c.v, api.OK)
	}
	for _, x := range atoms() {
		checkGet(t, x, nil, x, api.OK)
		checkGet(t, x, []api.PathStep{}, x, api.OK)
	}
	wide := list(append(nulls(4094), num(7))...)
	checkGet(t, wide, steps(4094), num(7), api.OK)
	checkGet(t, wide, steps(4093), null(), api.OK)
	checkGet(t, wide, steps(4095), api.Value{}, api.ErrIndex)
	for _, key := range []string{long(4096), "\x00", "é", "1", ".", "[0]", "a b"} {
		checkGet(t, object(key, num(5)), steps(key), num(5), api.OK)
		checkGet(t, object(key, num(5)), steps("other"), api.Value{}, api.ErrIndex)
	}
}

// P8.4: each error, in the first step and in a later one.
func TestGetErrors(t *testing.T) {
	v := sample()
	for _, c := range []struct {
		p []api.PathStep
		e api.Errno
	}{
		{steps("u", "x"), api.ErrUnknown}, {steps("u", 0), api.ErrUnknown}, {steps("u", "x", "y"), api.ErrUnknown}, {steps("b c", "k", 0), api.ErrUnknown}, {steps("b c", "k", "x"), api.ErrUnknown}, {steps("u", greatest), api.ErrUnknown}, {steps("u", ""), api.ErrUnknown},
		{steps(0), api.ErrType}, {steps("a", "b"), api.ErrType}, {steps("a", ""), api.ErrType}, {steps("b c", 0), api.ErrType}, {steps("n", "x"), api.ErrType}, {steps("n", 0), api.ErrType}, {steps("", "x"), api.ErrType}, {steps("a", 0, 0), api.ErrType}, {steps("a", 0, "x"), api.ErrType}, {steps("b c", "l", "x"), api.ErrType}, {steps(0, "x", 1), api.ErrType}, {steps(greatest), api.ErrType}, {steps("a", "0"), api.ErrType},
		{steps("x"), api.ErrIndex}, {steps("b"), api.ErrIndex}, {steps("zz"), api.ErrIndex}, {steps("A"), api.ErrIndex}, {steps("b c "), api.ErrIndex}, {steps("a", 2), api.ErrIndex}, {steps("a", greatest), api.ErrIndex}, {steps("a", 1<<32), api.ErrIndex}, {steps("b c", ""), api.ErrIndex}, {steps("b c", "l", 0), api.ErrIndex}, {steps("x", "y", 0), api.ErrIndex}, {steps("a", 2, "x"), api.ErrIndex}, {steps("0"), api.ErrIndex},
		// The first step that has an error is that of the result.
		{steps("x", "u", 0), api.ErrIndex}, {steps("u", 5, "x"), api.ErrUnknown}, {steps("a", "u", 5), api.ErrType}, {steps("a", 5, "u", 5), api.ErrIndex},
	} {
		checkGet(t, v, c.p, api.Value{}, c.e)
		checkGet(t, list(null(), v), slices.Concat(steps(1), c.p), api.Value{}, c.e)
		checkGet(t, inLists(20, v), slices.Concat(repeated(20, index(0)), c.p), api.Value{}, c.e)
	}
	for _, step := range []api.PathStep{named("a"), named(""), index(0), index(1)} {
		checkGet(t, unknown(), []api.PathStep{step}, api.Value{}, api.ErrUnknown)
		for _, x := range []api.Value{null(), yes(), num(1), str("a"), str("")} {
			checkGet(t, x, []api.PathStep{step}, api.Value{}, api.ErrType)
		}
		wrong, right := list(), emptyMap()
		if step.Index {
			wrong, right = right, wrong
		}
		checkGet(t, wrong, []api.PathStep{step}, api.Value{}, api.ErrType)
		checkGet(t, right, []api.PathStep{step}, api.Value{}, api.ErrIndex)
	}
}

// P8.4: paths of many steps.
func TestGetOfLongPaths(t *testing.T) {
	for n := range 32 {
		checkGet(t, inLists(n, num(9)), repeated(n, index(0)), num(9), api.OK)
		checkGet(t, inMaps(n, list()), repeated(n, named("k")), list(), api.OK)
		checkGet(t, inMaps(n, num(9)), repeated(n+1, named("k")), api.Value{}, api.ErrType)
		checkGet(t, inMaps(n, unknown()), repeated(n+1, named("k")), api.Value{}, api.ErrUnknown)
		checkGet(t, inMaps(n, emptyMap()), repeated(n+1, named("k")), api.Value{}, api.ErrIndex)
		checkGet(t, num(9), repeated(n+1, named("k")), api.Value{}, api.ErrType)
	}
}

func checkSet(t *testing.T, v api.Value, p []api.PathStep, x, want api.Value, wantErr api.Errno) {
	t.Helper()
	if got, e := path.Set(v, p, x); e != wantErr || !same(got, want) {
		t.Errorf("Set(%s, %s, %s) = %s, %d; want %s, %d", show(v), shown(p), show(x), show(got), e, show(want), wantErr)
	}
	if got, e := setAt(v, p, x); e != wantErr || !same(got, want) {
		t.Errorf("the model says %s, %d for %s, %s, %s", show(got), e, show(v), shown(p), show(x))
	}
}

// P8.5: values that are replaced, and keys that are added.
func TestSetValues(t *testing.T) {
	one := object("a", num(1))
	for _, x := range append(atoms(), sample()) {
		checkSet(t, one, steps("b"), x, object("a,b", num(1), x), api.OK)
		checkSet(t, one, steps(""), x, object(",a", x, num(1)), api.OK)
		checkSet(t, one, steps("a"), x, object("a", x), api.OK)
		checkSet(t, emptyMap(), steps("a"), x, object("a", x), api.OK)
		checkSet(t, emptyMap(), steps(""), x, api.Value{Kind: 5, Keys: []string{""}, Items: []api.Value{x}}, api.OK)
		checkSet(t, object("a,c", num(1), num(3)), steps("b"), x, object("a,b,c", num(1), x, num(3)), api.OK)
		checkSet(t, object("a,c", num(1), num(3)), steps("B"), x, object("B,a,c", x, num(1), num(3)), api.OK)
		checkSet(t, object("a,b,c", num(1), num(2), num(3)), steps("b"), x, object("a,b,c", num(1), x, num(3)), api.OK)
		checkSet(t, object("a,b,c", num(1), num(2), num(3)), steps("c"), x, object("a,b,c", num(1), num(2), x), api.OK)
		checkSet(t, list(num(1), num(2), num(3)), steps(0), x, list(x, num(2), num(3)), api.OK)
		checkSet(t, list(num(1), num(2), num(3)), steps(1), x, list(num(1), x, num(3)), api.OK)
		checkSet(t, list(num(1), num(2), num(3)), steps(2), x, list(num(1), num(2), x), api.OK)
		checkSet(t, object("a", one), steps("a", "b"), x, object("a", object("a,b", num(1), x)), api.OK)
		checkSet(t, list(one, one), steps(1, "b"), x, list(one, object("a,b", num(1), x)), api.OK)
		checkSet(t, object("a,b", list(one), num(2)), steps("a", 0, "z"), x, object("a,b", list(object("a,z", num(1), x)), num(2)), api.OK)
		checkSet(t, object("a,b", unknown(), num(2)), steps("a"), x, object("a,b", x, num(2)), api.OK)
		for _, v := range append(atoms(), sample()) {
			checkSet(t, v, nil, x, x, api.OK)
			checkSet(t, v, []api.PathStep{}, x, x, api.OK)
		}
	}
	for _, key := range []string{long(4096), "\x00", "é", "1", ".", "[0]", "a b"} {
		checkSet(t, emptyMap(), steps(key), num(5), object(key, num(5)), api.OK)
		checkSet(t, object(key, num(1)), steps(key), num(5), object(key, num(5)), api.OK)
	}
}

// P8.5: each error of Get, in the last step and in an earlier one.
func TestSetErrors(t *testing.T) {
	v := sample()
	for _, x := range []api.Value{null(), num(7), unknown(), sample(), list(nulls(4095)...), inLists(31, null())} {
		for _, c := range []struct {
			p []api.PathStep
			e api.Errno
		}{
			{steps("u", "x"), api.ErrUnknown}, {steps("u", 0), api.ErrUnknown}, {steps("u", "x", "y"), api.ErrUnknown}, {steps("b c", "k", 0), api.ErrUnknown}, {steps("b c", "k", "x"), api.ErrUnknown},
			{steps(0), api.ErrType}, {steps("a", "b"), api.ErrType}, {steps("b c", 0), api.ErrType}, {steps("n", "x"), api.ErrType}, {steps("n", 0), api.ErrType}, {steps("", "x"), api.ErrType}, {steps("a", 0, 0), api.ErrType}, {steps("a", 0, "x"), api.ErrType}, {steps("b c", "l", "x"), api.ErrType}, {steps(0, "x", 1), api.ErrType},
			{steps("x", "y"), api.ErrIndex}, {steps("b", 0), api.ErrIndex}, {steps("a", 2), api.ErrIndex}, {steps("a", greatest), api.ErrIndex}, {steps("b c", "l", 0), api.ErrIndex}, {steps("x", "y", 0), api.ErrIndex}, {steps("a", 2, "x"), api.ErrIndex}, {steps("b c", "x", "x"), api.ErrIndex}, {steps("x", "x", "x"), api.ErrIndex},
		} {
			checkSet(t, v, c.p, x, api.Value{}, c.e)
			checkSet(t, list(null(), v), slices.Concat(steps(1), c.p), x, api.Value{}, c.e)
			checkSet(t, inMaps(20, v), slices.Concat(repeated(20, named("k")), c.p), x, api.Value{}, c.e)
		}
	}
	checkSet(t, object("a", num(1)), steps("b", "c"), num(2), api.Value{}, api.ErrIndex)
	checkSet(t, unknown(), steps("b"), num(2), api.Value{}, api.ErrUnknown)
	checkSet(t, null(), steps("b"), num(2), api.Value{}, api.ErrType)
	checkSet(t, list(), steps(0), num(2), api.Value{}, api.ErrIndex)
	checkSet(t, list(num(1)), steps(1), num(2), api.Value{}, api.ErrIndex)
	checkSet(t, list(), steps("b"), num(2), api.Value{}, api.ErrType)
	checkSet(t, emptyMap(), steps(0), num(2), api.Value{}, api.ErrType)
}

// P8.5: results that are not valid.
func TestSetInvalidResults(t *testing.T) {
	for n := 1; n <= 31; n++ {
		// At the end of n steps is the level n+1.
		fits, deep := inLists(31-n, num(7)), inLists(32-n, num(7))
		checkSet(t, inLists(n, null()), repeated(n, index(0)), fits, inLists(31, num(7)), api.OK)
		checkSet(t, inLists(n, null()), repeated(n, index(0)), deep, api.Value{}, api.ErrTooDeep)
		checkSet(t, inMaps(n, null()), repeated(n, named("k")), deep, api.Value{}, api.ErrTooDeep)
		checkSet(t, inMaps(n-1, emptyMap()), repeated(n, named("k")), fits, inMaps(n, fits), api.OK)
		checkSet(t, inMaps(n-1, emptyMap()), repeated(n, named("k")), deep, api.Value{}, api.ErrTooDeep)
		if n == 31 {
			continue
		}
		checkSet(t, inMaps(n, null()), repeated(n, named("k")), list(nulls(4095-n)...), inMaps(n, list(nulls(4095-n)...)), api.OK)
		checkSet(t, inMaps(n, null()), repeated(n, named("k")), list(nulls(4096-n)...), api.Value{}, api.ErrLimit)
		checkSet(t, inMaps(n-1, emptyMap()), repeated(n, named("k")), list(nulls(4096-n)...), api.Value{}, api.ErrLimit)
	}
	checkSet(t, inMaps(31, emptyMap()), repeated(32, named("k")), null(), api.Value{}, api.ErrTooDeep)
	checkSet(t, inMaps(31, null()), repeated(32, named("k")), null(), api.Value{}, api.ErrType)
	checkSet(t, inLists(31, list()), repeated(32, index(0)), null(), api.Value{}, api.ErrIndex)

	wide := list(append(nulls(4093), list())...)
	checkSet(t, wide, steps(4093), list(null()), list(append(nulls(4093), list(null()))...), api.OK)
	checkSet(t, wide, steps(4093), list(null(), null()), api.Value{}, api.ErrLimit)
	checkSet(t, wide, steps(0), list(null(), null()), api.Value{}, api.ErrLimit)
	checkSet(t, wide, steps(4094), list(null(), null()), api.Value{}, api.ErrIndex)
	full := object("m,n", emptyMap(), list(nulls(4092)...))
	checkSet(t, full, steps("a"), null(), object("a,m,n", null(), emptyMap(), list(nulls(4092)...)), api.OK)
	checkSet(t, full, steps("m", "a"), list(), object("m,n", object("a", list()), list(nulls(4092)...)), api.OK)
	checkSet(t, full, steps("a"), list(null()), api.Value{}, api.ErrLimit)
	checkSet(t, full, steps("n"), list(nulls(4093)...), object("m,n", emptyMap(), list(nulls(4093)...)), api.OK)
	checkSet(t, full, steps("n"), list(nulls(4094)...), api.Value{}, api.ErrLimit)

	// Both limits are exceeded: the first node in preorder decides.
	checkSet(t, object("a,b", null(), list(nulls(4000)...)), steps("a"), inLists(31, null()), api.Value{}, api.ErrTooDeep)
	checkSet(t, object("a,b", list(nulls(4090)...), null()), steps("b"), inLists(31, null()), api.Value{}, api.ErrLimit)
}

// P8.4, P8.5 and P8.9: small values, with all short paths.
func TestGetAndSetOfSmallValues(t *testing.T) {
	all := paths(3, named("a"), named("b"), named(""), index(0), index(1), index(3))
	xs := []api.Value{null(), unknown(), object("a", list(num(5)))}
	for i, v := range bases() {
		for k, p := range all {
			want, wantErr := valueAt(v, p)
			if got, e := path.Get(v, p); e != wantErr || !same(got, want) {
				t.Fatalf("Get(%s, %s) = %s, %d; want %s, %d", show(v), shown(p), show(got), e, show(want), wantErr)
			}
			x := xs[(i+k)%len(xs)]
			want, wantErr = setAt(v, p, x)
			got, e := path.Set(v, p, x)
			if e != wantErr || !same(got, want) {
				t.Fatalf("Set(%s, %s, %s) = %s, %d; want %s, %d", show(v), shown(p), show(x), show(got), e, show(want), wantErr)
			}
			if e == api.OK {
				checkAfterSet(t, v, p, x, got, all)
			}
		}
	}
}

// checkAfterSet checks P8.9: what Get returns before and after v has x at the path p.
func checkAfterSet(t *testing.T, v api.Value, p []api.PathStep, x, result api.Value, others [][]api.PathStep) {
	t.Helper()
	if got, e := path.Get(result, p); e != api.OK || !same(got, x) {
		t.Fatalf("after Set(%s, %s, %s) Get returns %s, %d", show(v), shown(p), show(x), show(got), e)
	}
	for _, q := range others {
		if begins(p, q) || begins(q, p) {
			continue
		}
		before, e1 := path.Get(v, q)
		after, e2 := path.Get(result, q)
		if e1 != e2 || !same(before, after) {
			t.Fatalf("Set(%s, %s, %s) changed %s: Get returns %s, %d and then %s, %d", show(v), shown(p), show(x), shown(q), show(before), e1, show(after), e2)
		}
	}
}

// P8.4, P8.5 and P8.9: random values, with the paths in them and beside them.
func TestGetAndSetOfRandomValues(t *testing.T) {
	r := rand.New(rand.NewPCG(8, 4))
	ends := []api.PathStep{named("a"), named("new"), named(""), index(0), index(9)}
	for range 1500 {
		v := random(r, 1+r.IntN(6))
		var all [][]api.PathStep
		for _, l := range within(nil, v) {
			all = append(all, l.p)
			if r.IntN(4) == 0 {
				all = append(all, slices.Concat(l.p, []api.PathStep{choose(r, ends...)}))
			}
		}
		for range 4 {
			p, x := choose(r, all...), random(r, 3)
			want, wantErr := valueAt(v, p)
			if got, e := path.Get(v, p); e != wantErr || !same(got, want) {
				t.Fatalf("Get(%s, %s) = %s, %d; want %s, %d", show(v), shown(p), show(got), e, show(want), wantErr)
			}
			want, wantErr = setAt(v, p, x)
			got, e := path.Set(v, p, x)
			if e != wantErr || !same(got, want) {
				t.Fatalf("Set(%s, %s, %s) = %s, %d; want %s, %d", show(v), shown(p), show(x), show(got), e, show(want), wantErr)
			}
			if e == api.OK && len(all) < 200 {
				checkAfterSet(t, v, p, x, got, all)
			}
		}
	}
}

// differing is what Diff returns for two values, which are both at the path p.
func differing(p []api.PathStep, a, b api.Value) [][]api.PathStep {
	if value.Equal(a, b) {
		return nil
	}
	maps := a.Kind == 5 && b.Kind == 5 && slices.Equal(a.Keys, b.Keys)
	lists := a.Kind == 4 && b.Kind == 4 && len(a.Items) == len(b.Items)
	if !maps && !lists {
		return [][]api.PathStep{p}
	}
	var all [][]api.PathStep
	for i := range a.Items {
		step := api.PathStep{Index: lists, Num: i}
		if maps {
			step = api.PathStep{Name: a.Keys[i]}
		}
		all = append(all, differing(slices.Concat(p, []api.PathStep{step}), a.Items[i], b.Items[i])...)
	}
	return all
}

// texts returns the texts of paths, with commas between them.
func texts(list [][]api.PathStep) string {
	var all []string
	for _, p := range list {
		all = append(all, textOf(p))
	}
	return strings.Join(all, ",")
}

// P8.6
func TestDiff(t *testing.T) {
	v := sample()
	for i, c := range []struct {
		a, b  api.Value
		texts []string
	}{
		{object("a,b", num(1), list(num(1), num(2))), object("a,b", num(1), list(num(1), num(3))), []string{"b[1]"}},
		{v, v, nil}, {list(v, v), list(v, v), nil}, {list(), list(), nil}, {emptyMap(), emptyMap(), nil}, {null(), null(), nil}, {num(1), num(1), nil}, {str("a"), str("a"), nil}, {yes(), yes(), nil},
		{unknown(), unknown(), nil}, {list(unknown()), list(unknown()), nil}, {object("a", unknown()), object("a", unknown()), nil},
		{unknown(), null(), []string{""}}, {null(), unknown(), []string{""}}, {unknown(), list(), []string{""}}, {v, unknown(), []string{""}}, {list(unknown()), list(num(1)), []string{"[0]"}}, {object("a", num(1)), object("a", unknown()), []string{"a"}}, {object("a", list(num(1))), object("a", unknown()), []string{"a"}}, {list(unknown(), num(1)), list(unknown(), unknown()), []string{"[1]"}},
		{num(1), num(2), []string{""}}, {num(1), yes(), []string{""}}, {num(1), str("1"), []string{""}}, {str("a"), str("b"), []string{""}}, {str("a"), str(""), []string{""}}, {null(), list(), []string{""}}, {list(), emptyMap(), []string{""}}, {emptyMap(), list(), []string{""}}, {list(num(1)), object("a", num(1)), []string{""}}, {api.Value{Kind: 1}, yes(), []string{""}},
		// Other keys, also where the items are equal.
		{object("a", num(1)), object("b", num(1)), []string{""}}, {object("a", num(1)), object("a,b", num(1), num(1)), []string{""}}, {object("a,b", num(1), num(1)), object("a", num(1)), []string{""}}, {object("a", num(1)), emptyMap(), []string{""}}, {emptyMap(), object("a", num(1)), []string{""}}, {object("a,b", num(1), num(2)), object("a,c", num(1), num(2)), []string{""}}, {object("a,b", num(1), num(2)), object("a,c", num(3), num(2)), []string{""}}, {object("", num(1)), object("a", num(1)), []string{""}},
		// Other lengths, also where one is the beginning of the other.
		{list(num(1)), list(), []string{""}}, {list(), list(num(1)), []string{""}}, {list(num(1)), list(num(1), num(1)), []string{""}}, {list(num(1), num(2)), list(num(2)), []string{""}}, {list(list(num(1)), num(2)), list(list(), num(2)), []string{"[0]"}}, {list(list(num(1)), num(2)), list(list(), num(3)), []string{"[0]", "[1]"}},
		// Several places, in order.
		{list(num(1), num(2), num(3)), list(num(3), num(2), num(1)), []string{"[0]", "[2]"}}, {object("a,b,c", num(1), num(2), num(3)), object("a,b,c", num(3), num(2), num(1)), []string{"a", "c"}},
		{object("a,b", list(num(1), num(2)), object("c,d", num(3), num(4))), object("a,b", list(num(0), num(0)), object("c,d", num(0), num(0))), []string{"a[0]", "a[1]", "b.c", "b.d"}},
		{object("a,b c", list(null(), list(yes())), object("1,x", str("s"), num(4))), object("a,b c", list(unknown(), list(null())), object("1,x", str("t"), list())), []string{"a[0]", "a[1][0]", `["b c"]["1"]`, `["b c"].x`}},
		{list(object("a", num(1)), object("a", num(1)), object("b", num(1))), list(object("a", num(2)), object("b", num(1)), object("b", num(2))), []string{"[0].a", "[1]", "[2].b"}},
		{inLists(31, num(1)), inLists(31, num(2)), []string{strings.Repeat("[0]", 31)}}, {inMaps(31, num(1)), inMaps(31, num(2)), []string{"k" + strings.Repeat(".k", 30)}}, {inLists(31, num(1)), inLists(30, num(1)), []string{strings.Repeat("[0]", 30)}}, {inLists(31, num(1)), inMaps(31, num(1)), []string{""}},
	} {
		got := path.Diff(c.a, c.b)
		if len(got) != len(c.texts) || texts(got) != strings.Join(c.texts, ",") {
			t.Errorf("case %d: Diff(%s, %s) = %d paths, %q; want %q", i, show(c.a), show(c.b), len(got), texts(got), c.texts)
		}
		if other := path.Diff(c.b, c.a); !samePaths(got, other) || !samePaths(got, differing(nil, c.a, c.b)) {
			t.Errorf("case %d: Diff(%s, %s) = %q; in the other order %q", i, show(c.a), show(c.b), texts(got), texts(other))
		}
	}
}

// checkDiff compares Diff with its definition, and checks P8.10.
func checkDiff(t *testing.T, a, b api.Value) {
	t.Helper()
	got := path.Diff(a, b)
	if want := differing(nil, a, b); !samePaths(got, want) {
		t.Fatalf("Diff(%s, %s) = %d paths, %q; want %d, %q", show(a), show(b), len(got), texts(got), len(want), texts(want))
	}
	for i, p := range got {
		for k, q := range got {
			if i != k && begins(p, q) {
				t.Fatalf("Diff(%s, %s) has %s and %s", show(a), show(b), shown(p), shown(q))
			}
		}
	}
	// Set is not used here, since a value between a and b may have too many nodes.
	result := a
	for _, p := range got {
		x, e := path.Get(b, p)
		if e != api.OK {
			t.Fatalf("Diff(%s, %s) has %s, at which Get returns %d", show(a), show(b), shown(p), e)
		}
		result = replaced(result, p, x)
	}
	if !same(result, b) {
		t.Fatalf("Diff(%s, %s) = %q makes %s", show(a), show(b), texts(got), show(result))
	}
}

// P8.6 and P8.10: all pairs of small values.
func TestDiffOfSmallValues(t *testing.T) {
	all := bases()
	for _, a := range all {
		for _, b := range all {
			checkDiff(t, a, b)
		}
	}
}

// P8.6 and P8.10: random values that differ at some places.
func TestDiffOfRandomValues(t *testing.T) {
	r := rand.New(rand.NewPCG(8, 6))
	for range 5000 {
		a := random(r, 1+r.IntN(6))
		b := a
		for range r.IntN(6) {
			b = replaced(b, choose(r, within(nil, b)...).p, random(r, 1+r.IntN(3)))
		}
		checkDiff(t, a, b)
		checkDiff(t, b, a)
		checkDiff(t, b, copied(b))
	}
}

// P8.6: as many paths as a value can have nodes.
func TestDiffAtManyPlaces(t *testing.T) {
	checkDiffIsEach := func(a, b api.Value, n int) {
		t.Helper()
		got := path.Diff(a, b)
		if len(got) != n || !samePaths(got, differing(nil, a, b)) {
			t.Errorf("Diff(%s, %s) = %d paths; want %d", show(a), show(b), len(got), n)
		}
	}
	full, other := list(nulls(4095)...), list(slices.Repeat([]api.Value{num(1)}, 4095)...)
	checkDiffIsEach(full, other, 4095)
	checkDiffIsEach(full, copied(full), 0)
	checkDiffIsEach(full, list(nulls(4094)...), 1)
	checkDiffIsEach(inMaps(30, list(nulls(4065)...)), inMaps(30, list(slices.Repeat([]api.Value{num(1)}, 4065)...)), 4065)
}

// P8.7
func TestLeaves(t *testing.T) {
	for i, c := range []struct {
		v     api.Value
		texts []string
	}{
		{object("a,b", list(), list(num(1))), []string{"a", "b[0]"}}, {num(1), []string{""}}, {null(), []string{""}}, {unknown(), []string{""}}, {yes(), []string{""}}, {str("a"), []string{""}}, {list(), []string{""}}, {emptyMap(), []string{""}},
		{list(null()), []string{"[0]"}}, {list(list()), []string{"[0]"}}, {list(emptyMap()), []string{"[0]"}}, {list(unknown(), unknown()), []string{"[0]", "[1]"}}, {object("a", emptyMap()), []string{"a"}}, {object("a", object("b", list())), []string{"a.b"}}, {list(list(list(), list(list()))), []string{"[0][0]", "[0][1][0]"}},
		{sample(), []string{`[""]`, "a[0]", "a[1]", `["b c"].k`, `["b c"].l`, "n", "u"}}, {list(sample(), num(1)), []string{`[0][""]`, "[0].a[0]", "[0].a[1]", `[0]["b c"].k`, `[0]["b c"].l`, "[0].n", "[0].u", "[1]"}},
		{object("B,a,é", num(1), num(2), num(3)), []string{"B", "a", `["é"]`}}, {object("10,9", list(num(1), num(2)), num(3)), []string{`["10"][0]`, `["10"][1]`, `["9"]`}},
		{inLists(31, num(1)), []string{strings.Repeat("[0]", 31)}}, {inMaps(31, emptyMap()), []string{"k" + strings.Repeat(".k", 30)}},
	} {
		got := path.Leaves(c.v)
		if len(got) != len(c.texts) || texts(got) != strings.Join(c.texts, ",") {
			t.Errorf("case %d: Leaves(%s) = %d paths, %q; want %q", i, show(c.v), len(got), texts(got), c.texts)
		}
		checkLeaves(t, c.v)
	}
}

// checkLeaves compares Leaves with its definition, and checks P8.11.
func checkLeaves(t *testing.T, v api.Value) {
	t.Helper()
	var want [][]api.PathStep
	for _, l := range within(nil, v) {
		if len(l.v.Items) == 0 {
			want = append(want, l.p)
		}
	}
	got := path.Leaves(v)
	if !samePaths(got, want) {
		t.Fatalf("Leaves(%s) = %d paths, %q; want %d, %q", show(v), len(got), texts(got), len(want), texts(want))
	}
	found := map[string]bool{}
	for _, p := range got {
		if x, e := path.Get(v, p); e != api.OK || len(x.Items) > 0 {
			t.Fatalf("Leaves(%s) has %s, at which Get returns %s, %d", show(v), shown(p), show(x), e)
		}
		if found[shown(p)] {
			t.Fatalf("Leaves(%s) has %s twice", show(v), shown(p))
		}
		found[shown(p)] = true
	}
}

// P8.7 and P8.11: small values, random ones, and large ones.
func TestLeavesOfAllKindsOfValues(t *testing.T) {
	for _, v := range bases() {
		checkLeaves(t, v)
	}
	r := rand.New(rand.NewPCG(8, 7))
	for range 5000 {
		checkLeaves(t, random(r, 1+r.IntN(7)))
	}
	checkLeaves(t, list(nulls(4095)...))
	checkLeaves(t, inLists(30, list(nulls(4065)...)))
	checkLeaves(t, list(slices.Repeat([]api.Value{list(nulls(31)...)}, 127)...))
}
