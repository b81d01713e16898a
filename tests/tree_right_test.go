package tests

import (
	"fmt"
	"math"
	"slices"
	"strings"
	"testing"

	"loop.example/g00449/impl"
)

// longPath has the most bytes that a path may have.
var longPath = strings.Repeat(longName+"/", impl.MaxNames-1) + longName

func dir(path string, time int64, mark int64) impl.Node {
	return impl.Node{Path: path, Kind: impl.KdDir, Time: time, Mark: mark}
}

func file(path string, data string, time int64) impl.Node {
	return impl.Node{Path: path, Kind: impl.KdFile, Data: data, Time: time}
}

func gone(path string, mark int64) impl.Node {
	return impl.Node{Path: path, Kind: impl.KdGone, Mark: mark}
}

func tree(nodes ...impl.Node) impl.Tree {
	return impl.Tree{Nodes: nodes}
}

// flatTree has so many files, side by side.
func flatTree(count int) impl.Tree {
	var t impl.Tree
	for number := range count {
		t.Nodes = append(t.Nodes, file(fmt.Sprintf("f%03d", number), fmt.Sprint(number), int64(number)))
	}
	return t
}

// longTree has MaxNodes nodes of as many bytes as may be.
func longTree() impl.Tree {
	var t impl.Tree
	for count := 1; count < impl.MaxNames; count++ {
		t.Nodes = append(t.Nodes, dir(strings.TrimSuffix(strings.Repeat(longName+"/", count), "/"), impl.MaxTime, 8))
	}
	for number := range impl.MaxNodes - len(t.Nodes) {
		path := fmt.Sprintf("%s%02d", longPath[:len(longPath)-2], number)
		t.Nodes = append(t.Nodes, file(path, allBytes(60), impl.MaxTime))
	}
	return t
}

// someTrees are right trees: of every kind of node, nested, full, and with names that bytes would put in another order.
func someTrees() []impl.Tree {
	return []impl.Tree{
		{}, {Nodes: []impl.Node{}},
		tree(dir("a", 0, 0)), tree(dir("a", impl.MaxTime, 8)), tree(file("a", "", 0)), tree(file("a", allBytes(60), impl.MaxTime)), tree(gone("a", 1)), tree(gone("a", 8)),
		tree(dir("a", 1, 0), file("a/x", "in", 2)),
		tree(dir("a", 1, 2), dir("a/b", 2, 0), gone("a/b/c", 3), file("a/b/d", "\x00\xff", 4), file("a/c", "", 5), gone("b", 1), dir("c", 6, 1)),
		tree(dir("a", 1, 0), dir("a/a", 2, 0), file("a/a/z", "1", 3), file("a/b", "2", 4), dir("a0", 5, 0), file("a0/a", "3", 6), dir("a_", 7, 0), gone("a_/a", 2), file("aa", "4", 8)),
		tree(dir("a", 1, 0), dir("a/b", 1, 0), dir("a/b/c", 1, 0), dir("a/b/c/d", 1, 0), dir("a/b/c/d/e", 1, 0), file("a/b/c/d/e/f", "deep", 1)),
		tree(dir("a", 1, 0), file("a/x", "1", 1), dir("b", 1, 0), file("b/x", "2", 1), dir("b/y", 1, 0), file("b/y/x", "3", 1)),
		flatTree(impl.MaxNodes - 1), flatTree(impl.MaxNodes), longTree(),
		{Nodes: append([]impl.Node{dir("a", 9, 0), file("a/x", "in", 9)}, flatTree(impl.MaxNodes-2).Nodes...)},
	}
}

// wrongNodes are not right, each for a reason of its own.
func wrongNodes() []impl.Node {
	all := []impl.Node{
		{}, dir("", 0, 0), file("", "", 0), gone("", 1),
		file("n", allBytes(61), 0), file("n", allBytes(impl.MaxBytes+1), 0), dir("n", 0, 0), gone("n", 1),
		file("n", "", -1), file("n", "", impl.MaxTime+1), dir("n", -1, 0), dir("n", impl.MaxTime+1, 0), file("n", "", math.MinInt64), dir("n", math.MaxInt64, 0),
		dir("n", 0, -1), dir("n", 0, 9), dir("n", 0, math.MinInt64), dir("n", 0, math.MaxInt64),
		gone("n", 0), gone("n", -1), gone("n", 9), {Path: "n", Mark: 1, Time: 1}, {Path: "n", Mark: 1, Time: -1}, {Path: "n", Mark: 8, Time: impl.MaxTime},
		{Path: "n", Kind: impl.KdFile, Mark: 1}, {Path: "n", Kind: impl.KdFile, Mark: 8}, {Path: "n", Kind: impl.KdFile, Mark: -1}, {Path: "n", Kind: impl.KdFile, Mark: 9},
		{Path: "n", Kind: -1}, {Path: "n", Kind: -1, Mark: 1}, {Path: "n", Kind: 3}, {Path: "n", Kind: 3, Mark: 1}, {Path: "n", Kind: math.MaxInt64}, {Path: "n", Kind: math.MinInt64, Mark: 1},
	}
	all[6].Data, all[7].Data = "d", "d"
	for _, path := range wrongPaths() {
		all = append(all, file(path, "", 0))
	}
	return all
}

// wrongTrees are not right, each for a reason of its own.
func wrongTrees() []impl.Tree {
	all := []impl.Tree{
		flatTree(impl.MaxNodes + 1), flatTree(impl.MaxList), flatTree(impl.MaxList + 1),
		tree(file("b", "", 0), file("a", "", 0)), tree(file("a", "", 0), file("a", "", 0)), tree(dir("a", 0, 0), gone("a", 1)),
		tree(file("a", "", 0), file("c", "", 0), file("b", "", 0)), tree(dir("a", 0, 0), file("a/x", "", 0), file("a/x", "", 1)),
		tree(dir("a", 0, 0), file("a0", "", 0), file("a/x", "", 0)), tree(dir("a", 0, 0), file("a_", "", 0), file("a/x", "", 0)), tree(file("a/x", "", 0), dir("a", 0, 0)),
		tree(file("aa", "", 0), file("a_", "", 0)), tree(file("a_", "", 0), file("a0", "", 0)),
		tree(file("a/x", "", 0)), tree(gone("a/x", 1)), tree(dir("a/x", 0, 0)), tree(dir("b", 0, 0), file("c/x", "", 0)), tree(dir("a", 0, 0), file("ab/x", "", 0)),
		tree(dir("a", 0, 0), file("a/b/c", "", 0)), tree(dir("a/b", 0, 0), file("a/b/c", "", 0)), tree(dir("b", 0, 0), dir("x", 0, 0), file("x/b/c", "", 0)),
		tree(file("a", "", 0), file("a/x", "", 0)), tree(gone("a", 1), file("a/x", "", 0)), tree(gone("a", 1), gone("a/x", 1)), tree(file("a", "", 0), dir("a/x", 0, 0)),
		tree(dir("a", 0, 0), file("a/b", "", 0), file("a/b/c", "", 0)), tree(dir("a", 0, 0), gone("a/b", 1), dir("a/b/c", 0, 0)),
	}
	for _, n := range wrongNodes() {
		all = append(all, tree(n), tree(dir("a", 0, 0), n), tree(n, file("z", "", 0)))
	}
	return all
}

// shown is a tree as a text, where no nodes and an empty list are the same.
func shown(t impl.Tree) string {
	return fmt.Sprintf("%+v", t.Nodes)
}

// sameOut compares whole answers.
func sameOut(a impl.TreeOut, b impl.TreeOut) bool {
	return a.Code == b.Code && slices.Equal(a.Tree.Nodes, b.Tree.Nodes)
}

// ruleOf says of each kind, in the words of chapter 4, what its node may have.
func ruleOf(n impl.Node) bool {
	common := len(n.Data) <= 60 && 0 <= n.Time && n.Time <= 1000000 && 0 <= n.Mark && n.Mark <= 8
	dataFits := n.Data == "" || n.Kind == 2
	marks := map[int64]bool{0: n.Mark >= 1 && n.Time == 0, 1: true, 2: n.Mark == 0}
	return common && dataFits && marks[n.Kind]
}

func TestNodeRight(t *testing.T) {
	times := []int64{math.MinInt64, -1, 0, 1, impl.MaxTime - 1, impl.MaxTime, impl.MaxTime + 1, math.MaxInt64}
	marks := []int64{math.MinInt64, -1, 0, 1, 2, 7, 8, 9, math.MaxInt64}
	kinds := []int64{math.MinInt64, -1, impl.KdGone, impl.KdDir, impl.KdFile, 3, math.MaxInt64}
	for _, kind := range kinds {
		for _, size := range []int{0, 1, 59, 60, 61, 1000} {
			for _, time := range times {
				for _, mark := range marks {
					n := impl.Node{Path: "a/b", Kind: kind, Data: allBytes(size), Time: time, Mark: mark}
					if got, want := impl.NodeRight(n), ruleOf(n); got != want {
						t.Errorf("NodeRight of kind %d, %d bytes, time %d, mark %d = %v, want %v", kind, size, time, mark, got, want)
					}
				}
			}
		}
	}
}

func TestNodeRightKnown(t *testing.T) {
	for _, n := range []impl.Node{gone("a", 1), gone("a", 8), dir("a", 0, 0), dir("a", impl.MaxTime, 8), dir("a", 3, 1), file("a", "", 0), file("a", allBytes(60), impl.MaxTime)} {
		if !impl.NodeRight(n) {
			t.Errorf("NodeRight(%+v) is false", n)
		}
	}
	for _, n := range wrongNodes() {
		if impl.NodeRight(n) {
			t.Errorf("NodeRight(%.80q) is true", fmt.Sprint(n))
		}
	}
}

func TestNodeRightPaths(t *testing.T) {
	for _, path := range somePaths() {
		for _, n := range []impl.Node{dir(path, 1, 1), file(path, "d", 1), gone(path, 1)} {
			if got, want := impl.NodeRight(n), path != ""; got != want {
				t.Errorf("NodeRight(%+v) = %v, want %v", n, got, want)
			}
		}
	}
}

func TestTreeRight(t *testing.T) {
	for _, right := range someTrees() {
		if !impl.TreeRight(right) {
			t.Errorf("TreeRight(%s) is false", shown(right))
		}
	}
	for _, wrong := range wrongTrees() {
		if impl.TreeRight(wrong) {
			t.Errorf("TreeRight(%.200s) is true", shown(wrong))
		}
	}
}

// Each node of a right tree is looked at: with one out of its place, twice, or gone from above others, it is right no more.
func TestTreeRightLooksAtEachNode(t *testing.T) {
	for _, right := range someTrees() {
		for place, n := range right.Nodes {
			twice := slices.Insert(slices.Clone(right.Nodes), place, n)
			if impl.TreeRight(impl.Tree{Nodes: twice}) {
				t.Errorf("with node %d twice it is right: %s", place, shown(right))
			}
			wrong := slices.Clone(right.Nodes)
			wrong[place].Time = -1
			if impl.TreeRight(impl.Tree{Nodes: wrong}) {
				t.Errorf("with a wrong node %d it is right: %s", place, shown(right))
			}
			without := slices.Delete(slices.Clone(right.Nodes), place, place+1)
			isParent := slices.ContainsFunc(right.Nodes, func(o impl.Node) bool { return strings.HasPrefix(o.Path, n.Path+"/") })
			if got := impl.TreeRight(impl.Tree{Nodes: without}); got == isParent {
				t.Errorf("without node %d it is right: %v: %s", place, got, shown(right))
			}
			if place > 0 {
				turned := slices.Clone(right.Nodes)
				turned[place-1], turned[place] = turned[place], turned[place-1]
				if impl.TreeRight(impl.Tree{Nodes: turned}) {
					t.Errorf("with nodes %d and %d turned it is right: %s", place-1, place, shown(right))
				}
			}
		}
	}
}

func TestTreePlain(t *testing.T) {
	for _, right := range someTrees() {
		want := true
		for _, n := range right.Nodes {
			want = want && n.Kind != impl.KdGone && n.Mark == 0
		}
		if got := impl.TreePlain(right); got != want {
			t.Errorf("TreePlain(%s) = %v, want %v", shown(right), got, want)
		}
	}
	for _, wrong := range wrongTrees() {
		if impl.TreePlain(wrong) {
			t.Errorf("TreePlain(%.200s) is true, though it is not right", shown(wrong))
		}
	}
}

func TestTreePlainLooksAtEachNode(t *testing.T) {
	for place := range impl.MaxNodes {
		marked := flatTree(impl.MaxNodes)
		marked.Nodes[place] = dir(marked.Nodes[place].Path, 1, 1)
		hidden := flatTree(impl.MaxNodes)
		hidden.Nodes[place] = gone(hidden.Nodes[place].Path, 1)
		if !impl.TreePlain(flatTree(impl.MaxNodes)) || impl.TreePlain(marked) || impl.TreePlain(hidden) {
			t.Errorf("TreePlain does not look at node %d", place)
		}
	}
}

func TestTreeCount(t *testing.T) {
	for _, right := range someTrees() {
		if got := impl.TreeCount(right); got != int64(len(right.Nodes)) {
			t.Errorf("TreeCount(%s) = %d, want %d", shown(right), got, len(right.Nodes))
		}
	}
	for _, wrong := range wrongTrees() {
		if got := impl.TreeCount(wrong); got != 0 {
			t.Errorf("TreeCount(%.200s) = %d, want 0", shown(wrong), got)
		}
	}
}

func TestTreeSame(t *testing.T) {
	for _, a := range someTrees() {
		for _, b := range someTrees() {
			if got, want := impl.TreeSame(a, b), slices.Equal(a.Nodes, b.Nodes); got != want {
				t.Errorf("TreeSame(%s, %s) = %v, want %v", shown(a), shown(b), got, want)
			}
		}
		for _, wrong := range wrongTrees() {
			if impl.TreeSame(a, wrong) || impl.TreeSame(wrong, a) {
				t.Errorf("TreeSame of %s and %.200s is true", shown(a), shown(wrong))
			}
		}
	}
	for _, wrong := range wrongTrees() {
		if impl.TreeSame(wrong, wrong) {
			t.Errorf("TreeSame of %.200s and itself is true, though it is not right", shown(wrong))
		}
	}
}

func TestTreeSameLooksAtAllOfANode(t *testing.T) {
	base := tree(dir("a", 1, 1), file("a/x", "d", 2), gone("b", 3))
	others := []impl.Tree{
		tree(dir("a", 2, 1), file("a/x", "d", 2), gone("b", 3)), tree(dir("a", 1, 2), file("a/x", "d", 2), gone("b", 3)),
		tree(dir("a", 1, 1), file("a/x", "e", 2), gone("b", 3)), tree(dir("a", 1, 1), file("a/x", "d", 1), gone("b", 3)),
		tree(dir("a", 1, 1), file("a/y", "d", 2), gone("b", 3)), tree(dir("a", 1, 1), file("a/x", "d", 2), gone("b", 2)),
		tree(dir("a", 1, 1), file("a/x", "d", 2), dir("b", 0, 3)), tree(dir("a", 1, 1), file("a/x", "d", 2)), tree(dir("a", 1, 1), file("a/x", "d", 2), gone("b", 3), gone("c", 3)),
	}
	for _, other := range others {
		if !impl.TreeRight(other) || impl.TreeSame(base, other) || impl.TreeSame(other, base) {
			t.Errorf("TreeSame of %s and %s is true, or one is not right", shown(base), shown(other))
		}
	}
	if !impl.TreeSame(base, impl.Tree{Nodes: slices.Clone(base.Nodes)}) {
		t.Error("TreeSame of a tree and its copy is false")
	}
}
