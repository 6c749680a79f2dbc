package path_test

import (
	"cmp"
	"math/rand/v2"
	"regexp"
	"slices"
	"strconv"
	"strings"

	"provision/api"
	"provision/strlit"
	"provision/value"
)

const (
	greatest   = 1 << 53
	mostSteps  = 32
	mostLevels = 32
	mostNodes  = 4096
	mostText   = 65536
	mostString = 4096
)

func null() api.Value               { return api.Value{Kind: 0} }
func yes() api.Value                { return api.Value{Kind: 1, Num: 1} }
func num(n int) api.Value           { return api.Value{Kind: 2, Num: n} }
func str(s string) api.Value        { return api.Value{Kind: 3, Str: s} }
func unknown() api.Value            { return api.Value{Kind: 6} }
func list(v ...api.Value) api.Value { return api.Value{Kind: 4, Items: v} }
func emptyMap() api.Value           { return api.Value{Kind: 5} }
func nulls(n int) []api.Value       { return make([]api.Value, n) }
func long(n int) string             { return strings.Repeat("a", n) }

// object returns a map with the keys, which are written with commas between them.
func object(keys string, v ...api.Value) api.Value {
	return api.Value{Kind: 5, Keys: strings.Split(keys, ","), Items: v}
}

// inLists returns v in so many lists, each of which is the only item of the next one.
func inLists(levels int, v api.Value) api.Value {
	for range levels {
		v = list(v)
	}
	return v
}

func inMaps(levels int, v api.Value) api.Value {
	for range levels {
		v = object("k", v)
	}
	return v
}

func named(name string) api.PathStep { return api.PathStep{Name: name} }
func index(n int) api.PathStep       { return api.PathStep{Index: true, Num: n} }

// steps returns the path whose steps are the names and the indexes.
func steps(parts ...any) []api.PathStep {
	var p []api.PathStep
	for _, part := range parts {
		switch part := part.(type) {
		case string:
			p = append(p, named(part))
		case int:
			p = append(p, index(part))
		}
	}
	return p
}

// repeated returns a path of n equal steps.
func repeated(n int, step api.PathStep) []api.PathStep {
	return slices.Repeat([]api.PathStep{step}, n)
}

// same reports whether two values are the same field by field, valid or not; an empty list and nil are the same.
func same(a, b api.Value) bool {
	return a.Kind == b.Kind && a.Num == b.Num && a.Str == b.Str && slices.Equal(a.Keys, b.Keys) && slices.EqualFunc(a.Items, b.Items, same)
}

// samePaths reports whether two lists of paths are the same.
func samePaths(a, b [][]api.PathStep) bool {
	return slices.EqualFunc(a, b, func(p, q []api.PathStep) bool { return slices.Equal(p, q) })
}

// begins reports whether q is a beginning of p.
func begins(q, p []api.PathStep) bool {
	return len(q) <= len(p) && slices.Equal(q, p[:len(q)])
}

// copied returns a value that shares no lists with v.
func copied(v api.Value) api.Value {
	v.Keys, v.Items = slices.Clone(v.Keys), slices.Clone(v.Items)
	for i := range v.Items {
		v.Items[i] = copied(v.Items[i])
	}
	return v
}

// show returns the beginning of a text for v.
func show(v api.Value) string {
	text := written(v)
	if len(text) > 200 {
		return text[:200] + ".."
	}
	return text
}

func written(v api.Value) string {
	text := "{" + strconv.Itoa(int(v.Kind)) + " " + strconv.Itoa(v.Num) + " " + strconv.Quote(v.Str[:min(len(v.Str), 20)])
	for _, k := range v.Keys[:min(len(v.Keys), 9)] {
		text += " " + strconv.Quote(k[:min(len(k), 20)])
	}
	for i, item := range v.Items {
		if i < 9 && len(text) < 200 {
			text += " " + written(item)
		}
	}
	return text + "}"
}

// shown returns a text for a path, valid or not.
func shown(p []api.PathStep) string {
	text := ""
	for _, step := range p[:min(len(p), 40)] {
		text += " " + strconv.FormatBool(step.Index) + ":" + strconv.Itoa(step.Num) + ":" + strconv.Quote(step.Name[:min(len(step.Name), 40)])
	}
	return "(" + text + " )"
}

var identifier = regexp.MustCompile(`^[A-Za-z_][A-Za-z0-9_]{0,63}$`)

// textOf is the text of a valid path.
func textOf(p []api.PathStep) string {
	text := ""
	for i, step := range p {
		switch {
		case step.Index:
			text += "[" + strconv.Itoa(step.Num) + "]"
		case identifier.MatchString(step.Name) && i == 0:
			text += step.Name
		case identifier.MatchString(step.Name):
			text += "." + step.Name
		default:
			text += "[" + strlit.Quote(step.Name) + "]"
		}
	}
	return text
}

// located is a value with its path.
type located struct {
	p []api.PathStep
	v api.Value
}

// within returns the values in v, which is at the path p, with their paths, in preorder.
func within(p []api.PathStep, v api.Value) []located {
	all := []located{{p, v}}
	for i, item := range v.Items {
		step := api.PathStep{Index: v.Kind == 4, Num: i}
		if v.Kind == 5 {
			step = api.PathStep{Name: v.Keys[i]}
		}
		all = append(all, within(slices.Concat(p, []api.PathStep{step}), item)...)
	}
	return all
}

// valueAt returns what Get returns for a valid path, found among all values in v.
func valueAt(v api.Value, p []api.PathStep) (api.Value, api.Errno) {
	var last located
	for _, l := range within(nil, v) {
		if begins(l.p, p) {
			last = l
		}
	}
	if len(last.p) == len(p) {
		return last.v, api.OK
	}
	wanted := api.Kind(5)
	if p[len(last.p)].Index {
		wanted = 4
	}
	switch last.v.Kind {
	case 6:
		return api.Value{}, api.ErrUnknown
	case wanted:
		return api.Value{}, api.ErrIndex
	}
	return api.Value{}, api.ErrType
}

// replaced returns v with x at the path p, where only the last step may be a new key.
func replaced(v api.Value, p []api.PathStep, x api.Value) api.Value {
	if len(p) == 0 {
		return x
	}
	v = copied(v)
	place := p[0].Num
	if !p[0].Index {
		place = slices.Index(v.Keys, p[0].Name)
	}
	if place >= 0 {
		v.Items[place] = replaced(v.Items[place], p[1:], x)
		return v
	}
	v, e := value.Map(append(v.Keys, p[0].Name), append(v.Items, x))
	if e != api.OK {
		panic("a key is there already")
	}
	return v
}

// setAt returns what Set returns for a valid value, path and x.
func setAt(v api.Value, p []api.PathStep, x api.Value) (api.Value, api.Errno) {
	_, e := valueAt(v, p)
	if e != api.OK && !isNewKey(v, p) {
		return api.Value{}, e
	}
	result := replaced(v, p, x)
	if e := value.Check(result); e != api.OK {
		return api.Value{}, e
	}
	return result, api.OK
}

// isNewKey reports whether the path p leads to a map of v and then to a key that it does not have.
func isNewKey(v api.Value, p []api.PathStep) bool {
	parent, e := valueAt(v, p[:len(p)-1])
	return e == api.OK && parent.Kind == 5 && !p[len(p)-1].Index
}

// atoms are values without elements.
func atoms() []api.Value {
	return []api.Value{null(), yes(), num(1), str("a"), unknown(), list(), emptyMap()}
}

// bases returns small values of up to three levels.
func bases() []api.Value {
	level := atoms()
	all := slices.Clone(level)
	for range 2 {
		var next []api.Value
		for i, v := range level {
			other := level[(i*5+3)%len(level)]
			next = append(next, list(v), object("a", v), object("b", v), list(v, other), list(other, num(2), v), object("a,b", v, other), object("a,b", other, v), object(",a,b", v, v, other))
		}
		all = append(all, next...)
		level = level[:0]
		for i := 0; i < len(next); i += 3 {
			level = append(level, next[i])
		}
	}
	return all
}

// paths returns all paths of at most count of the steps.
func paths(count int, choices ...api.PathStep) [][]api.PathStep {
	all := [][]api.PathStep{nil}
	for i := 0; i < len(all); i++ {
		if len(all[i]) < count {
			for _, step := range choices {
				all = append(all, slices.Concat(all[i], []api.PathStep{step}))
			}
		}
	}
	return all
}

func choose[T any](r *rand.Rand, from ...T) T { return from[r.IntN(len(from))] }

// random returns a random value of at most so many levels.
func random(r *rand.Rand, levels int) api.Value {
	if levels == 1 || r.IntN(5) == 0 {
		return choose(r, atoms()...)
	}
	n := r.IntN(5)
	keys := []string{"", "a", "b c", "k", "z1", "é", "\"", "k_9"}
	r.Shuffle(len(keys), func(i, j int) { keys[i], keys[j] = keys[j], keys[i] })
	keys = keys[:n]
	slices.SortFunc(keys, cmp.Compare)
	v := api.Value{Kind: 4}
	if r.IntN(2) == 0 {
		v = api.Value{Kind: 5, Keys: keys}
	}
	for range n {
		v.Items = append(v.Items, random(r, levels-1))
	}
	return v
}
