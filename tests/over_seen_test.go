package tests

import (
	"fmt"
	"slices"
	"testing"

	"loop.example/g00449/impl"
)

// fullTree has MaxNodes files whose names begin so.
func fullTree(begin string) impl.Tree {
	return numbered(begin, impl.MaxNodes)
}

// numbered has so many files whose names begin so.
func numbered(begin string, count int) impl.Tree {
	var t impl.Tree
	for number := range count {
		t.Nodes = append(t.Nodes, file(fmt.Sprintf("%s%03d", begin, number), begin, int64(number)))
	}
	return t
}

// inDir is a directory, with that mark, and so many files in it whose names begin so.
func inDir(path string, mark int64, begin string, count int) impl.Tree {
	t := tree(dir(path, 1, mark))
	for _, n := range numbered(begin, count).Nodes {
		n.Path = path + "/" + n.Path
		t.Nodes = append(t.Nodes, n)
	}
	return t
}

// All that chapter 5 says of a path is held against what the program tells, at every path.
func TestOverAgainstTheWordsOfTheDocument(t *testing.T) {
	full := 0
	for _, l := range someLayers() {
		got, want := impl.Over(l), overOf(l)
		if !sameOut(got, want) || !impl.TreeRight(got.Tree) {
			t.Fatalf("Over = %d %s, want %d %s, of%s", got.Code, shown(got.Tree), want.Code, shown(want.Tree), shownLayers(l))
		}
		if got.Code == impl.ErrFull {
			full++
		}
		for _, path := range pathsOver(l) {
			want := viewOf(l, path)
			if got := impl.SeenAt(l, path); got != want.out {
				t.Fatalf("SeenAt %q = %+v, want %+v, of%s", path, got, want.out, shownLayers(l))
			}
			if got := impl.LayersOf(l, path); !slices.Equal(got, want.parts) {
				t.Fatalf("LayersOf %q = %v, want %v, of%s", path, got, want.parts, shownLayers(l))
			}
		}
	}
	if full == 0 {
		t.Error("no layers were too many for one tree")
	}
}

type seenCase struct {
	what  string
	l     impl.Layers
	path  string
	out   impl.NodeOut
	parts []int64
}

func (c seenCase) run(t *testing.T) {
	t.Helper()
	if got := impl.SeenAt(c.l, c.path); got != c.out {
		t.Errorf("%s: SeenAt %q = %+v, want %+v", c.what, c.path, got, c.out)
	}
	if got := impl.LayersOf(c.l, c.path); !slices.Equal(got, c.parts) {
		t.Errorf("%s: LayersOf %q = %v, want %v", c.what, c.path, got, c.parts)
	}
	place := placeOf(impl.Over(c.l).Tree, c.path)
	if there := place >= 0; there != (c.out.Code == impl.OK) {
		t.Errorf("%s: %q is in the tree of all: %v", c.what, c.path, there)
	} else if there && impl.Over(c.l).Tree.Nodes[place] != c.out.Node {
		t.Errorf("%s: the tree of all has %+v, want %+v", c.what, impl.Over(c.l).Tree.Nodes[place], c.out.Node)
	}
}

func is(n impl.Node) impl.NodeOut {
	return impl.NodeOut{Node: n}
}

var none = impl.NodeOut{Code: impl.ErrNone}

func TestSeenWhereGoneDecides(t *testing.T) {
	low := tree(dir("a", 5, 0), file("a/x", "low", 6))
	flat := tree(file("a", "low", 6))
	cases := []seenCase{
		{"gone by 1 alone", layers(tree(gone("a", 1))), "a", none, nil},
		{"gone by 2 alone", layers(tree(gone("a", 2))), "a", is(gone("a", 1)), nil},
		{"gone by 8 alone", layers(tree(gone("a", 8))), "a", is(gone("a", 7)), nil},
		{"gone by 1 over a file", layers(tree(gone("a", 1)), flat), "a", none, nil},
		{"gone by 2 over a file", layers(tree(gone("a", 2)), flat), "a", is(gone("a", 1)), nil},
		{"gone by 1 over a directory", layers(tree(gone("a", 1)), low), "a", none, nil},
		{"below gone by 1", layers(tree(gone("a", 1)), low), "a/x", none, nil},
		{"gone by 3 over a directory", layers(tree(gone("a", 3)), low), "a", is(gone("a", 2)), nil},
		{"below gone by 3", layers(tree(gone("a", 3)), low), "a/x", none, nil},
		{"gone by 1 over gone by 8", layers(tree(gone("a", 1)), tree(gone("a", 8)), low), "a", none, nil},
		{"gone by 2 over gone by 8", layers(tree(gone("a", 2)), tree(gone("a", 8))), "a", is(gone("a", 1)), nil},
		{"gone by 2 over a directory anew by 8", layers(tree(gone("a", 2)), tree(dir("a", 1, 8))), "a", is(gone("a", 1)), nil},
		{"gone over nothing", layers(tree(gone("a", 1)), impl.Tree{}, tree(file("b", "", 1))), "a", none, nil},
		{"gone by 2 over nothing", layers(tree(gone("a", 2)), impl.Tree{}), "a", is(gone("a", 1)), nil},
		{"gone below nothing, over a file", layers(impl.Tree{}, tree(gone("a", 2)), flat), "a", is(gone("a", 1)), nil},
		{"gone in a directory", layers(tree(dir("a", 1, 0), gone("a/x", 1)), low), "a/x", none, nil},
		{"gone in a directory by 2", layers(tree(dir("a", 1, 0), gone("a/x", 2)), low), "a/x", is(gone("a/x", 1)), nil},
		{"gone below a file", layers(flat, tree(gone("a", 8))), "a", is(file("a", "low", 6)), nil},
	}
	for _, c := range cases {
		c.run(t)
	}
}

func TestSeenWhereAFileDecides(t *testing.T) {
	top := tree(file("a", "top", 9))
	low := tree(dir("a", 5, 3), file("a/x", "low", 6))
	cases := []seenCase{
		{"a file alone", layers(top), "a", is(file("a", "top", 9)), nil},
		{"a file over a file", layers(top, tree(file("a", "low", 1))), "a", is(file("a", "top", 9)), nil},
		{"a file over a directory", layers(top, low), "a", is(file("a", "top", 9)), nil},
		{"below a file", layers(top, low), "a/x", none, nil},
		{"a directory over a file", layers(low, top), "a", is(dir("a", 5, 2)), []int64{0}},
		{"a file in a directory over a file", layers(low, top), "a/x", is(file("a/x", "low", 6)), nil},
		{"a file below nothing", layers(impl.Tree{}, impl.Tree{}, impl.Tree{}, top), "a", is(file("a", "top", 9)), nil},
		{"the longest file", layers(impl.Tree{}, longTree()), longPath[:len(longPath)-2] + "03", is(file(longPath[:len(longPath)-2]+"03", allBytes(60), impl.MaxTime)), nil},
		{"two below what is not there", layers(top, low), "b/c", none, nil},
		{"an empty file of time 0", layers(tree(file("b", "", 0)), tree(file("b", "low", 3))), "b", is(file("b", "", 0)), nil},
	}
	for _, c := range cases {
		c.run(t)
	}
}

func TestSeenWhereADirectoryDecides(t *testing.T) {
	at := func(time int64, mark int64) impl.Tree { return tree(dir("a", time, mark)) }
	cases := []seenCase{
		{"one", layers(at(1, 0)), "a", is(dir("a", 1, 0)), []int64{0}},
		{"one anew by 1", layers(at(1, 1)), "a", is(dir("a", 1, 0)), []int64{0}},
		{"one anew by 8", layers(at(1, 8)), "a", is(dir("a", 1, 7)), []int64{0}},
		{"four", layers(at(4, 0), at(3, 0), at(2, 0), at(1, 0)), "a", is(dir("a", 4, 0)), []int64{0, 1, 2, 3}},
		{"of the time of the first", layers(impl.Tree{}, at(0, 0), at(9, 0)), "a", is(dir("a", 0, 0)), []int64{1, 2}},
		{"with some between that have nothing", layers(at(1, 0), impl.Tree{}, tree(file("b", "", 0)), at(2, 0)), "a", is(dir("a", 1, 0)), []int64{0, 3}},
		{"anew at once", layers(at(1, 2), at(2, 8), at(3, 0)), "a", is(dir("a", 1, 1)), []int64{0}},
		{"the one that is anew counted in", layers(at(1, 0), at(2, 3), at(3, 8), at(4, 0)), "a", is(dir("a", 1, 2)), []int64{0, 1}},
		{"the last one anew", layers(at(1, 0), at(2, 0), at(3, 0), at(4, 5)), "a", is(dir("a", 1, 4)), []int64{0, 1, 2, 3}},
		{"anew by 1 further down", layers(at(1, 0), at(2, 1), at(3, 8)), "a", is(dir("a", 1, 0)), []int64{0, 1}},
		{"ended by a file", layers(at(1, 0), tree(file("a", "", 1)), at(3, 8)), "a", is(dir("a", 1, 0)), []int64{0}},
		{"ended by one that is gone by 1", layers(at(1, 0), tree(gone("a", 1)), at(3, 8)), "a", is(dir("a", 1, 0)), []int64{0}},
		{"ended by one that is gone by 4", layers(at(1, 0), at(2, 0), tree(gone("a", 4)), at(3, 8)), "a", is(dir("a", 1, 3)), []int64{0, 1}},
		{"ended by anew, gone behind it", layers(at(1, 0), at(2, 2), tree(gone("a", 8))), "a", is(dir("a", 1, 1)), []int64{0, 1}},
		{"ended by a file, gone behind it", layers(at(1, 0), tree(file("a", "", 1)), tree(gone("a", 8))), "a", is(dir("a", 1, 0)), []int64{0}},
		{"ended by gone, more gone behind it", layers(at(1, 0), tree(gone("a", 2)), tree(gone("a", 8))), "a", is(dir("a", 1, 1)), []int64{0}},
		{"gone between, first with nothing", layers(impl.Tree{}, at(1, 0), tree(gone("a", 8)), at(3, 0)), "a", is(dir("a", 1, 7)), []int64{1}},
	}
	for _, c := range cases {
		c.run(t)
	}
}

// What is in a directory is seen of those alone that have a part in it.
func TestSeenBelowADirectory(t *testing.T) {
	top := tree(dir("a", 1, 0), dir("a/b", 2, 0))
	low := tree(dir("a", 3, 0), dir("a/b", 4, 0), file("a/b/x", "low", 5), gone("a/g", 3))
	anew := tree(dir("a", 1, 1), file("a/own", "", 1))
	between := tree(gone("a", 1))
	cases := []seenCase{
		{"through both", layers(top, low), "a/b/x", is(file("a/b/x", "low", 5)), nil},
		{"a directory through both", layers(top, low), "a/b", is(dir("a/b", 2, 0)), []int64{0, 1}},
		{"gone below one that has nothing there", layers(top, low), "a/g", is(gone("a/g", 2)), nil},
		{"below anew", layers(anew, low), "a/b", none, nil},
		{"two below anew", layers(anew, low), "a/b/x", none, nil},
		{"in what is anew", layers(anew, low), "a/own", is(file("a/own", "", 1)), nil},
		{"anew between", layers(top, anew, low), "a/b", is(dir("a/b", 2, 0)), []int64{0}},
		{"of what is anew between", layers(top, anew, low), "a/own", is(file("a/own", "", 1)), nil},
		{"behind anew between", layers(top, anew, low), "a/b/x", none, nil},
		{"gone between", layers(top, between, low), "a/b", is(dir("a/b", 2, 0)), []int64{0}},
		{"behind gone between", layers(top, between, low), "a/b/x", none, nil},
		{"behind a file between", layers(top, tree(file("a", "", 1)), low), "a/g", none, nil},
		{"the parent ends it, though it goes on there", layers(top, tree(dir("a", 1, 2)), low), "a/b", is(dir("a/b", 2, 0)), []int64{0}},
		{"a mark of the parent is not its own", layers(tree(dir("a", 1, 5), dir("a/b", 2, 0)), low), "a/b", is(dir("a/b", 2, 0)), []int64{0}},
		{"hidden in the parent, a mark does not count", layers(tree(dir("a", 1, 1), dir("a/b", 2, 0)), tree(dir("a", 1, 0), dir("a/b", 2, 8))), "a/b", is(dir("a/b", 2, 0)), []int64{0}},
		{"beside it nothing is hidden", layers(tree(gone("a", 1)), tree(dir("a", 1, 0), dir("a0", 1, 0), file("a0/x", "", 1))), "a0/x", is(file("a0/x", "", 1)), nil},
	}
	for _, c := range cases {
		c.run(t)
	}
}

func TestDeepestPath(t *testing.T) {
	deep := tree(dir("a", 1, 0), dir("a/b", 1, 0), dir("a/b/c", 1, 0), dir("a/b/c/d", 1, 0), dir("a/b/c/d/e", 1, 0), dir("a/b/c/d/e/f", 1, 4))
	cut := tree(dir("a", 2, 0), dir("a/b", 2, 0), dir("a/b/c", 2, 3), dir("a/b/c/d", 2, 0))
	seenCase{"alone", layers(deep), "a/b/c/d/e/f", is(dir("a/b/c/d/e/f", 1, 3)), []int64{0}}.run(t)
	seenCase{"twice", layers(cut, deep), "a/b/c", is(dir("a/b/c", 2, 2)), []int64{0}}.run(t)
	seenCase{"hidden far above", layers(cut, deep), "a/b/c/d/e/f", none, nil}.run(t)
	seenCase{"twice, the other way round", layers(deep, cut), "a/b/c/d", is(dir("a/b/c/d", 1, 0)), []int64{0, 1}}.run(t)
	seenCase{"the mark from below", layers(deep, cut), "a/b/c", is(dir("a/b/c", 1, 2)), []int64{0, 1}}.run(t)
}

func TestRootOfLayers(t *testing.T) {
	for count := 1; count <= impl.MaxLayers; count++ {
		for _, one := range []impl.Tree{{}, tree(gone("a", 1)), tree(dir("a", 1, 8)), flatTree(impl.MaxNodes)} {
			l := layers(slices.Repeat([]impl.Tree{one}, count)...)
			if got, want := impl.LayersOf(l, ""), []int64{0, 1, 2, 3}[:count]; !slices.Equal(got, want) {
				t.Errorf("LayersOf the root of %d layers = %v, want %v", count, got, want)
			}
			if got := impl.SeenAt(l, ""); got != (impl.NodeOut{Code: impl.ErrForm}) {
				t.Errorf("SeenAt the root of %d layers = %+v, want ErrForm alone", count, got)
			}
		}
	}
}

// One layer alone is not its tree: what it marks, it marks for one level less.
func TestOneLayerCountsAsALevel(t *testing.T) {
	one := tree(dir("a", 1, 2), gone("a/g", 1), gone("a/h", 3), file("a/x", "in", 2), gone("b", 1), dir("c", 3, 1), dir("d", 4, 0))
	want := tree(dir("a", 1, 1), gone("a/h", 2), file("a/x", "in", 2), dir("c", 3, 0), dir("d", 4, 0))
	if got := impl.Over(layers(one)); !sameOut(got, impl.TreeOut{Tree: want}) {
		t.Errorf("Over of one layer = %d %s, want %s", got.Code, shown(got.Tree), shown(want))
	}
	if got := impl.Over(layers(impl.Tree{})); !sameOut(got, impl.TreeOut{}) {
		t.Errorf("Over of an empty layer = %d %s, want nothing", got.Code, shown(got.Tree))
	}
}

// A tree of plain nodes is told as it is, alone and over itself.
func TestPlainTreeIsToldAsItIs(t *testing.T) {
	for _, plain := range someTrees() {
		if !impl.TreePlain(plain) {
			continue
		}
		for _, l := range []impl.Layers{layers(plain), layers(plain, plain), layers(impl.Tree{}, plain), layers(plain, impl.Tree{}, plain, impl.Tree{})} {
			if got := impl.Over(l); !sameOut(got, impl.TreeOut{Tree: plain}) {
				t.Errorf("Over = %d %s, want %s", got.Code, shown(got.Tree), shown(plain))
			}
		}
	}
}

func TestOverByCountOfNodes(t *testing.T) {
	half := impl.MaxNodes / 2
	manyGone := func(mark int64) impl.Tree {
		var t impl.Tree
		for number := range impl.MaxNodes {
			t.Nodes = append(t.Nodes, gone(fmt.Sprintf("g%03d", number), mark))
		}
		return t
	}
	cases := []struct {
		what  string
		l     impl.Layers
		count int
	}{
		{"one full tree", layers(fullTree("f")), impl.MaxNodes},
		{"the same full tree four times", layers(fullTree("f"), fullTree("f"), fullTree("f"), fullTree("f")), impl.MaxNodes},
		{"two halves", layers(numbered("a", half), numbered("b", impl.MaxNodes-half)), impl.MaxNodes},
		{"two halves and one more", layers(numbered("a", half), numbered("b", impl.MaxNodes-half), numbered("c", 1)), impl.MaxNodes + 1},
		{"one more above a full tree", layers(tree(file("z", "", 1)), fullTree("f")), impl.MaxNodes + 1},
		{"four full trees", layers(fullTree("a"), fullTree("b"), fullTree("c"), fullTree("d")), 4 * impl.MaxNodes},
		{"one gone by 1 over a full tree", layers(tree(gone("a", 1)), fullTree("f")), impl.MaxNodes},
		{"one gone by 2 over a full tree", layers(tree(gone("a", 2)), fullTree("f")), impl.MaxNodes + 1},
		{"one of a full tree gone, one more there", layers(tree(gone("f000", 1), file("z", "", 1)), fullTree("f")), impl.MaxNodes},
		{"one of a full tree gone by 2, one more there", layers(tree(gone("f000", 2), file("z", "", 1)), fullTree("f")), impl.MaxNodes + 1},
		{"all of a full tree gone by 1", layers(manyGone(1), fullTree("g")), 0},
		{"all of a full tree gone by 2", layers(manyGone(2), fullTree("g")), impl.MaxNodes},
		{"all gone by 2 and one more", layers(manyGone(2), tree(file("a", "", 1))), impl.MaxNodes + 1},
		{"a full directory over a full one", layers(inDir("a", 0, "x", impl.MaxNodes-1), inDir("a", 0, "y", impl.MaxNodes-1)), 2*impl.MaxNodes - 1},
		{"a full directory anew over a full one", layers(inDir("a", 1, "x", impl.MaxNodes-1), inDir("a", 0, "y", impl.MaxNodes-1)), impl.MaxNodes},
		{"a directory just full by both", layers(inDir("a", 0, "x", half), inDir("a", 3, "y", impl.MaxNodes-half-1)), impl.MaxNodes},
		{"a directory too full by both", layers(inDir("a", 0, "x", half), inDir("a", 3, "y", impl.MaxNodes-half)), impl.MaxNodes + 1},
		{"a file over a full directory, others beside it", layers(tree(file("a", "", 1)), inDir("a", 0, "x", impl.MaxNodes-1), numbered("b", impl.MaxNodes-1)), impl.MaxNodes},
	}
	for _, c := range cases {
		got := impl.Over(c.l)
		if c.count > impl.MaxNodes && !sameOut(got, impl.TreeOut{Code: impl.ErrFull}) {
			t.Errorf("%s: Over = %d and %d nodes, want ErrFull alone", c.what, got.Code, len(got.Tree.Nodes))
		}
		if c.count <= impl.MaxNodes && (got.Code != impl.OK || len(got.Tree.Nodes) != c.count || !impl.TreeRight(got.Tree)) {
			t.Errorf("%s: Over = %d and %d nodes, want %d", c.what, got.Code, len(got.Tree.Nodes), c.count)
		}
	}
}

// One path alone is told, though all of them are too many for a tree.
func TestSeenThoughThereAreTooMany(t *testing.T) {
	l := layers(inDir("a", 0, "x", impl.MaxNodes-1), inDir("a", 0, "y", impl.MaxNodes-1), fullTree("b"))
	known := []struct {
		path  string
		out   impl.NodeOut
		parts []int64
	}{
		{"a", is(dir("a", 1, 0)), []int64{0, 1}}, {"a/x038", is(file("a/x038", "x", 38)), nil}, {"a/y000", is(file("a/y000", "y", 0)), nil},
		{"b039", is(file("b039", "b", 39)), nil}, {"b040", none, nil}, {"a/x039", none, nil},
	}
	for _, k := range known {
		if got := impl.SeenAt(l, k.path); got != k.out {
			t.Errorf("SeenAt %q = %+v, want %+v", k.path, got, k.out)
		}
		if got := impl.LayersOf(l, k.path); !slices.Equal(got, k.parts) {
			t.Errorf("LayersOf %q = %v, want %v", k.path, got, k.parts)
		}
	}
}
