package value_test

import (
	"slices"
	"strconv"
	"strings"

	"provision/api"
)

const (
	greatest      = 1 << 53
	longestString = 4096
	mostLevels    = 32
	mostNodes     = 4096
)

func null() api.Value               { return api.Value{Kind: 0} }
func boolean(n int) api.Value       { return api.Value{Kind: 1, Num: n} }
func num(n int) api.Value           { return api.Value{Kind: 2, Num: n} }
func str(s string) api.Value        { return api.Value{Kind: 3, Str: s} }
func unknown() api.Value            { return api.Value{Kind: 6} }
func list(v ...api.Value) api.Value { return api.Value{Kind: 4, Items: v} }

// object returns a map with the keys, which are written with commas between them.
func object(keys string, v ...api.Value) api.Value {
	return api.Value{Kind: 5, Keys: strings.Split(keys, ","), Items: v}
}

func emptyMap() api.Value { return api.Value{Kind: 5} }

func nulls(n int) []api.Value { return make([]api.Value, n) }

// inLists returns v in so many lists, each of which is the only item of the next one.
func inLists(levels int, v api.Value) api.Value {
	for range levels {
		v = list(v)
	}
	return v
}

func inMaps(levels int, v api.Value) api.Value {
	for range levels {
		v = object("k", v)
	}
	return v
}

// same reports whether two values are the same field by field, valid or not; an empty list and nil are the same.
func same(a, b api.Value) bool {
	return a.Kind == b.Kind && a.Num == b.Num && a.Str == b.Str && slices.Equal(a.Keys, b.Keys) && slices.EqualFunc(a.Items, b.Items, same)
}

// copied returns a value that shares no lists with v.
func copied(v api.Value) api.Value {
	v.Keys, v.Items = slices.Clone(v.Keys), slices.Clone(v.Items)
	for i := range v.Items {
		v.Items[i] = copied(v.Items[i])
	}
	return v
}

// show returns the beginning of a text for v.
func show(v api.Value) string {
	text := written(v)
	if len(text) > 200 {
		return text[:200] + ".."
	}
	return text
}

func written(v api.Value) string {
	text := "{" + strconv.Itoa(int(v.Kind)) + " " + strconv.Itoa(v.Num) + " " + strconv.Quote(v.Str[:min(len(v.Str), 20)])
	for _, k := range v.Keys[:min(len(v.Keys), 9)] {
		text += " " + strconv.Quote(k[:min(len(k), 20)])
	}
	for i, item := range v.Items {
		if i < 9 && len(text) < 200 {
			text += " " + written(item)
		}
	}
	return text + "}"
}
