package value

import (
	"strings"

	"provision/api"
)

// A value that is not valid may contain itself, or the same items so often that
// there is no time for all of them, so what is done with its nodes has bounds.
const (
	// mostSteps is far above what valid values need, and what is made of them.
	mostSteps = 64 * api.MaxNodes

	// mostBuilt is for results that the document defines for items that are not
	// valid either: more nodes have more bytes than a result for which it promises
	// something.
	mostBuilt = 1 << 25
)

// visitNodes calls visit for the nodes of v in preorder, with their levels, until
// it returns false. It does not call itself, since the nesting of a value that is
// not valid has no limit.
func visitNodes(v api.Value, visit func(node api.Value, level int) bool) {
	// For each level, the nodes that have not been visited yet.
	open := [][]api.Value{{v}}
	for range mostSteps {
		level := len(open)
		if level == 0 {
			return
		}
		next := open[level-1]
		if len(next) == 0 {
			open = open[:level-1]
			continue
		}
		if !visit(next[0], level) {
			return
		}
		open[level-1] = next[1:]
		open = append(open, next[0].Items)
	}
}

// entries are consecutive entries of a list or map: the items, and the keys that a map has for them.
type entries struct {
	keys  []string
	items []api.Value
}

func (e entries) isEmpty() bool {
	return len(e.keys) == 0 && len(e.items) == 0
}

// isUnknown reports whether the first item is the unknown value.
func (e entries) isUnknown() bool {
	return len(e.items) > 0 && e.items[0].Kind == api.KindUnknown
}

// cut returns the first entry, or none, and the others.
func (e entries) cut() (entries, entries) {
	k, i := min(1, len(e.keys)), min(1, len(e.items))
	return entries{e.keys[:k], e.items[:i]}, entries{e.keys[k:], e.items[i:]}
}

// inside returns the entries that the first item contains.
func (e entries) inside() entries {
	if len(e.items) == 0 {
		return entries{}
	}
	return entries{e.items[0].Keys, e.items[0].Items}
}

// progress is how a visit goes on.
type progress int

const (
	enter progress = iota // with what the two items contain
	pass                  // with the entries behind them
	stop                  // not at all
)

// pair is what has not been visited yet of two values at the same place.
type pair struct {
	a, b entries
}

// visitPairs calls visit for a and b, and for their entries at the same places,
// in preorder. Each time, x and y are one entry; one of them is empty where its
// list or map has ended and the other one has not.
func visitPairs(a, b api.Value, visit func(x, y entries) progress) {
	open := []pair{{entries{items: []api.Value{a}}, entries{items: []api.Value{b}}}}
	for range mostSteps {
		if len(open) == 0 {
			return
		}
		last := &open[len(open)-1]
		if last.a.isEmpty() && last.b.isEmpty() {
			open = open[:len(open)-1]
			continue
		}
		var x, y entries
		x, last.a = last.a.cut()
		y, last.b = last.b.cut()
		switch visit(x, y) {
		case enter:
			open = append(open, pair{x.inside(), y.inside()})
		case stop:
			return
		}
	}
}

// copyOf returns a copy of v that shares no memory with it, and whose parts share
// none with each other. If it had more than most nodes below v, the result is null.
func copyOf(v api.Value, most int) api.Value {
	root := []api.Value{v}
	left := most
	// Lists of nodes that are copies, while the fields of the nodes are not.
	open := [][]api.Value{root}
	for len(open) > 0 {
		last := len(open) - 1
		nodes := open[last]
		open = open[:last]
		for i := range nodes {
			left -= len(nodes[i].Items)
			if left < 0 {
				return api.Value{}
			}
			nodes[i] = copyOfNode(nodes[i])
			if len(nodes[i].Items) > 0 {
				open = append(open, nodes[i].Items)
			}
		}
	}
	return root[0]
}

// copyOfNode returns a copy of v with fields of its own, except for those of its items.
func copyOfNode(v api.Value) api.Value {
	v.Str = strings.Clone(v.Str)
	v.Items = append([]api.Value(nil), v.Items...)
	v.Keys = append([]string(nil), v.Keys...)
	for i, key := range v.Keys {
		v.Keys[i] = strings.Clone(key)
	}
	return v
}
