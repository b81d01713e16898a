package tests

import (
	"fmt"
	"slices"
	"testing"

	"loop.example/g00449/impl"
)

// Promise 9: what is told of layers at each path is what the tree of all has there.
func TestToldAtEachPathIsInTheTreeOfAll(t *testing.T) {
	held := 0
	for _, l := range someLayers() {
		over := impl.Over(l)
		if over.Code != impl.OK {
			continue
		}
		told := 0
		for _, path := range pathsOver(l) {
			got, want := impl.SeenAt(l, path), impl.TreeGet(over.Tree, path)
			if got != want {
				t.Fatalf("at %q: SeenAt = %+v, the tree of all has %+v, of%s", path, got, want, shownLayers(l))
			}
			if got.Code == impl.OK {
				told++
			}
		}
		if told != len(over.Tree.Nodes) {
			t.Fatalf("%d paths are told, the tree of all has %d, of%s", told, len(over.Tree.Nodes), shownLayers(l))
		}
		held += told
	}
	if held < 5000 {
		t.Errorf("only %d paths were held against each other", held)
	}
}

// Promise 10: what stands in the uppermost layer is seen as it is there: a file whole, a directory of its
// time and with a part for this layer, and what is gone not at all.
func TestUppermostLayerIsSeenAsItIs(t *testing.T) {
	for _, l := range someLayers() {
		for _, n := range l.Trees[0].Nodes {
			seen, parts := impl.SeenAt(l, n.Path), impl.LayersOf(l, n.Path)
			right := false
			switch n.Kind {
			case impl.KdFile:
				right = seen == is(n) && len(parts) == 0
			case impl.KdDir:
				seen.Node.Mark = n.Mark
				right = seen == is(n) && len(parts) > 0 && parts[0] == 0
			case impl.KdGone:
				right = len(parts) == 0 && (n.Mark == 1 && seen == none || n.Mark > 1 && seen == is(gone(n.Path, n.Mark-1)))
			}
			if !right {
				t.Fatalf("%+v of the uppermost layer is seen as %+v, with parts of %v, of%s", n, seen, parts, shownLayers(l))
			}
		}
	}
}

// bottoms are trees that may lie below all others of some layers.
func bottoms(l impl.Layers) []impl.Tree {
	d := dice{state: uint64(len(shownLayers(l)))}
	var dirs impl.Tree
	for _, path := range pathsOver(l) {
		if path != "" && len(dirs.Nodes) < impl.MaxNodes && (parentOf(path) == "" || placeOf(dirs, parentOf(path)) >= 0) {
			dirs.Nodes = append(dirs.Nodes, dir(path, 999, int64(len(dirs.Nodes)%3)))
		}
	}
	return []impl.Tree{{}, dirs, l.Trees[0], d.thrownTree([]string{"a", "b", "x"}, 12), tree(gone("a", 8)), tree(file("a", "low", 1))}
}

// Promise 11: a layer more below changes nothing of what is seen already. (The mark of a directory is not
// seen: it may be greater then, as the layer below may have a part in it.)
func TestOneLayerMoreBelowChangesNothing(t *testing.T) {
	for round, l := range someLayers() {
		if len(l.Trees) == impl.MaxLayers {
			continue
		}
		// Each round takes another two of them, so that all meet many layers in little time.
		all := bottoms(l)
		for _, bottom := range []impl.Tree{all[round%len(all)], all[(round+3)%len(all)]} {
			more := layers(append(slices.Clone(l.Trees), bottom)...)
			for _, path := range pathsOver(more) {
				if fault := changedBy(l, more, path); fault != "" {
					t.Fatalf("with %s below, at %q %s, of%s", shown(bottom), path, fault, shownLayers(l))
				}
			}
		}
	}
}

// changedBy says what of a path is not as it was ahead of the layer below.
func changedBy(l impl.Layers, more impl.Layers, path string) string {
	ahead, then := impl.SeenAt(l, path), impl.SeenAt(more, path)
	first, second := impl.LayersOf(l, path), impl.LayersOf(more, path)
	if len(first) > 0 && !slices.Equal(first, second) && !slices.Equal(append(first, int64(len(l.Trees))), second) {
		return fmt.Sprintf("%v have a part, then %v", first, second)
	}
	if ahead.Code != impl.OK {
		return ""
	}
	if ahead.Node.Kind == impl.KdDir && then.Node.Mark >= ahead.Node.Mark && len(second) > 0 {
		then.Node.Mark = ahead.Node.Mark
	}
	if ahead != then {
		return fmt.Sprintf("%+v is told, then %+v", ahead, then)
	}
	return ""
}

// What is gone stays so, whatever lies below.
func TestGoneStaysGoneOverALayerMore(t *testing.T) {
	hiding := layers(tree(dir("a", 1, 0), gone("a/x", 1), gone("b", 2)), tree(dir("c", 1, 1)))
	below := tree(dir("a", 2, 8), file("a/x", "low", 2), dir("b", 2, 0), file("b/x", "low", 2), dir("c", 2, 0), file("c/x", "low", 2), file("d", "low", 2))
	want := tree(dir("a", 1, 7), gone("b", 1), dir("c", 1, 0), file("d", "low", 2))
	if got := impl.Over(layers(hiding.Trees[0], hiding.Trees[1], below)); !sameOut(got, impl.TreeOut{Tree: want}) {
		t.Errorf("Over = %d %s, want %s", got.Code, shown(got.Tree), shown(want))
	}
}

// Promise 12: layers have a part in a path just if a directory is seen there.
func TestPartsJustWhereADirectoryIsSeen(t *testing.T) {
	for _, l := range someLayers() {
		for _, path := range pathsOver(l) {
			seen, parts := impl.SeenAt(l, path), impl.LayersOf(l, path)
			isDir := path == "" || seen.Code == impl.OK && seen.Node.Kind == impl.KdDir
			if isDir != (len(parts) > 0) {
				t.Fatalf("at %q %+v is seen, and %v have a part, of%s", path, seen, parts, shownLayers(l))
			}
			if fault := wrongParts(l, path, parts); fault != "" {
				t.Fatalf("of %v, which have a part in %q, %s, of%s", parts, path, fault, shownLayers(l))
			}
		}
	}
}

// wrongParts says what of the numbers can't be: they rise, are numbers of layers, and each of these has a
// directory there, and a part in the parent.
func wrongParts(l impl.Layers, path string, parts []int64) string {
	for place, number := range parts {
		if number < 0 || number >= int64(len(l.Trees)) || place > 0 && parts[place-1] >= number {
			return "a number does not rise, or is of no layer"
		}
		if path == "" {
			continue
		}
		if at := placeOf(l.Trees[number], path); at < 0 || l.Trees[number].Nodes[at].Kind != impl.KdDir {
			return fmt.Sprintf("%d has no directory there", number)
		}
		if !slices.Contains(impl.LayersOf(l, parentOf(path)), number) {
			return fmt.Sprintf("%d has no part in the parent", number)
		}
	}
	return ""
}
