package tests

import (
	"slices"
	"testing"

	"loop.example/g00449/impl"
)

// allOf is what chapter 6 tells of a right nest, as if Over had room for all.
func allOf(n []impl.Item) impl.Tree {
	if n[0].Many == 0 {
		return n[0].Tree
	}
	var l impl.Layers
	for _, inner := range layersIn(n) {
		l.Trees = append(l.Trees, allOf(inner))
	}
	return toldOf(l)
}

// seenIn is what everybody would see of it then.
func seenIn(n []impl.Item) impl.Tree {
	return plainly(impl.TreeOut{Tree: allOf(n)}).Tree
}

// atPath is all that is asked of a nest at one path.
type atPath struct {
	out   impl.NodeOut
	names []string
	reach int64
}

func (a atPath) same(b atPath) bool {
	return a.out == b.out && slices.Equal(a.names, b.names) && a.reach == b.reach
}

// asked is what the program tells.
func asked(n []impl.Item, path string) atPath {
	return atPath{impl.Walk(n, path), impl.WalkNames(n, path), impl.Reach(n, path)}
}

// looked is what chapter 7 says of a right nest and path, given what everybody sees of it.
func looked(n []impl.Item, seen impl.Tree, path string) atPath {
	found := atPath{out: impl.NodeOut{Code: impl.ErrNone}}
	if place := placeOf(seen, path); place >= 0 {
		found.out = impl.NodeOut{Node: seen.Nodes[place]}
	}
	if path == "" {
		found.out = impl.NodeOut{Code: impl.ErrForm}
	}
	for _, one := range seen.Nodes {
		if parentOf(one.Path) == path {
			names := split(one.Path)
			found.names = append(found.names, names[len(names)-1])
		}
	}
	slices.Sort(found.names)
	for _, item := range n {
		if placeOf(item.Tree, path) >= 0 {
			found.reach++
		}
	}
	return found
}

// tells holds the program's answers at one path against what is to be told.
func tells(t *testing.T, what string, n []impl.Item, path string, want atPath) {
	t.Helper()
	if got := asked(n, path); !got.same(want) {
		t.Fatalf("%s: at %.40q it is %+v, want %+v, of%.2000s", what, path, got, want, shownNest(n))
	}
}

// pathsIn are the root, the paths of all leaves, and some that none of them has.
func pathsIn(n []impl.Item) []string {
	var l impl.Layers
	for _, item := range n {
		l.Trees = append(l.Trees, item.Tree)
	}
	return pathsOver(l)
}

// crowdedNests are right ones of which a tree has no room for all, or for all of a layer.
func crowdedNests() [][]impl.Item {
	full, one := leafOf(fullTree("f")), leaf(file("z", "", 1))
	many := nested(full, leafOf(fullTree("g")), leafOf(fullTree("h")), leafOf(fullTree("i")))
	inA := nested(leafOf(inDir("a", 0, "x", impl.MaxNodes-1)), leafOf(inDir("a", 2, "y", impl.MaxNodes-1)), leafOf(inDir("a", 0, "z", impl.MaxNodes-1)))
	return [][]impl.Item{
		nested(one, full), nested(full, one), inside(2, nested(full, one)), nested(leaf(), nested(full, one)), many, nested(many, nested(leafOf(fullTree("b")), one)),
		inA, nested(leaf(file("a", "", 1)), inA), nested(leaf(gone("a", 1)), inA), nested(leaf(dir("a", 7, 1), file("a/own", "", 8)), inA), nested(leaf(dir("a", 7, 0), file("a/own", "", 8)), inA),
		nested(inA, leafOf(inDir("a", 0, "w", impl.MaxNodes-1))), nested(inA, leaf(gone("a", 1))), nested(nested(leaf(gone("a", 2)), inA), many),
		nested(leafOf(goneOnes(impl.MaxNodes, 2)), full), nested(nested(leafOf(goneOnes(impl.MaxNodes, 2)), full), leafOf(numbered("g", impl.MaxNodes)), one),
	}
}

// flatOf is a right nest that is made flatter once, by the words of chapter 7; none, if it can't.
func flatOf(n []impl.Item) []impl.Item {
	inner := layersIn(n)
	if len(inner) < 2 {
		return nil
	}
	above, opened := inner[:len(inner)-1], layersIn(inner[len(inner)-1])
	if len(opened) == 0 || len(above)+len(opened) > 4 {
		return nil
	}
	return nested(slices.Concat(above, opened)...)
}

// flatNests can be made flatter: layers in a last layer of their own, below others.
func flatNests() [][]impl.Item {
	all := [][]impl.Item{}
	for number, l := range stackedLayers() {
		if len(l.Trees) == impl.MaxLayers && number%5 != 0 {
			continue
		}
		trees := [][]impl.Item{}
		for _, one := range l.Trees {
			trees = append(trees, leafOf(one))
		}
		for above := 1; above < len(trees); above++ {
			all = append(all, nested(append(slices.Clone(trees[:above]), nested(trees[above:]...))...))
		}
	}
	return append(all, thrownFlat(400)...)
}

// thrownFlat are nests that can be made flatter, whose layers are nests themselves.
func thrownFlat(count int) [][]impl.Item {
	d := dice{state: 7}
	all := [][]impl.Item{}
	for len(all) < count {
		names := [][]string{{"a"}, {"a", "x"}, {"a", "a0", "b"}}[d.below(3)]
		above := 1 + d.below(impl.MaxLayers-1)
		inner := [][]impl.Item{}
		for number := range above + 1 + d.below(impl.MaxLayers-above) {
			deep := impl.MaxDepth - 1
			if number >= above {
				deep--
			}
			inner = append(inner, d.thrownNest(1+d.below(deep), names, 12))
		}
		n := nested(append(slices.Clone(inner[:above]), nested(inner[above:]...))...)
		if len(n) <= impl.MaxItems {
			all = append(all, n)
		}
	}
	return all
}
