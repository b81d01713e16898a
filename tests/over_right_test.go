package tests

import (
	"fmt"
	"slices"
	"strings"
	"testing"

	"loop.example/g00449/impl"
)

// wrongLayers are not right, each for a reason of its own.
func wrongLayers() []impl.Layers {
	right := tree(dir("a", 1, 0), file("a/x", "in", 2))
	all := []impl.Layers{{}, {Trees: []impl.Tree{}}}
	for _, count := range []int{impl.MaxLayers + 1, impl.MaxLayers + 2, impl.MaxList, impl.MaxList + 1} {
		all = append(all, layers(slices.Repeat([]impl.Tree{right}, count)...), layers(make([]impl.Tree, count)...))
	}
	for number, wrong := range wrongTrees() {
		all = append(all, layers(wrong))
		trees := slices.Repeat([]impl.Tree{right}, impl.MaxLayers)
		trees[number%impl.MaxLayers] = wrong
		all = append(all, layers(trees...))
	}
	return all
}

func TestLayersRightByCount(t *testing.T) {
	for count := range impl.MaxLayers + 3 {
		for _, one := range []impl.Tree{{}, tree(gone("a", 1)), flatTree(impl.MaxNodes)} {
			l := layers(slices.Repeat([]impl.Tree{one}, count)...)
			if got, want := impl.LayersRight(l), count >= 1 && count <= impl.MaxLayers; got != want {
				t.Errorf("LayersRight of %d layers = %v, want %v", count, got, want)
			}
		}
	}
}

func TestLayersRight(t *testing.T) {
	for _, l := range someLayers() {
		if !impl.LayersRight(l) {
			t.Fatalf("LayersRight is false of%s", shownLayers(l))
		}
	}
	for _, l := range wrongLayers() {
		if impl.LayersRight(l) {
			t.Errorf("LayersRight is true of%.300s", shownLayers(l))
		}
	}
}

// Each layer is looked at, wherever it lies.
func TestLayersRightLooksAtEachLayer(t *testing.T) {
	for count := 1; count <= impl.MaxLayers; count++ {
		for number := range count {
			trees := make([]impl.Tree, count)
			trees[number] = tree(file("b", "", 0), file("a", "", 0))
			l := layers(trees...)
			if impl.LayersRight(l) || impl.Over(l).Code != impl.ErrForm || impl.SeenAt(l, "b").Code != impl.ErrForm || len(impl.LayersOf(l, "")) > 0 {
				t.Errorf("layer %d of %d is not looked at", number, count)
			}
		}
	}
}

func TestOverRefuses(t *testing.T) {
	for _, l := range wrongLayers() {
		if got := impl.Over(l); !sameOut(got, impl.TreeOut{Code: impl.ErrForm}) {
			t.Errorf("Over = %d %.80s, want ErrForm alone, of%.300s", got.Code, shown(got.Tree), shownLayers(l))
		}
	}
}

// That a layer is not right is told ahead of that there would be too many nodes.
func TestOverTellsFormFirst(t *testing.T) {
	full := layers(fullTree("a"), fullTree("b"))
	if got := impl.Over(full); got.Code != impl.ErrFull {
		t.Errorf("Over of two full trees tells %d, want ErrFull", got.Code)
	}
	for _, wrong := range []impl.Tree{tree(file("b", "", 0), file("a", "", 0)), flatTree(impl.MaxNodes + 1)} {
		if got := impl.Over(layers(full.Trees[0], full.Trees[1], wrong)); !sameOut(got, impl.TreeOut{Code: impl.ErrForm}) {
			t.Errorf("with a wrong one below them it tells %d, want ErrForm alone", got.Code)
		}
	}
}

func TestSeenAtRefuses(t *testing.T) {
	right := layers(tree(dir("a", 1, 0), file("a/x", "in", 2)), tree(file("b", "", 1)))
	for _, l := range append(wrongLayers(), right, layers(impl.Tree{})) {
		for _, path := range append(wrongPaths(), "") {
			code := formOrSize(path, "").Code
			if got := impl.SeenAt(l, path); got != (impl.NodeOut{Code: code}) {
				t.Errorf("SeenAt(.., %.30q) = %.80q, want %d alone, of%.300s", path, fmt.Sprint(got), code, shownLayers(l))
			}
		}
	}
	for _, l := range wrongLayers() {
		for _, path := range []string{"a", "a/x", "n", "zz", "f000"} {
			if got := impl.SeenAt(l, path); got != (impl.NodeOut{Code: impl.ErrForm}) {
				t.Errorf("SeenAt(.., %q) = %.80q, want ErrForm alone, of%.300s", path, fmt.Sprint(got), shownLayers(l))
			}
		}
	}
}

// A text of MaxBytes bytes is looked at, and is no path; one byte more is refused ahead of all else.
func TestSeenAtAndLayersOfBySizeOfText(t *testing.T) {
	right := layers(tree(dir("a", 1, 0)))
	most := strings.Repeat("a", impl.MaxBytes)
	for _, l := range []impl.Layers{right, {}, layers(tree(gone("a", 0)))} {
		for _, text := range []string{most, strings.Repeat("/", impl.MaxBytes), "a" + strings.Repeat("/", impl.MaxBytes-1)} {
			if got := impl.SeenAt(l, text); got != (impl.NodeOut{Code: impl.ErrForm}) {
				t.Errorf("SeenAt of a text of MaxBytes bytes tells %d, want ErrForm alone", got.Code)
			}
			if got := impl.SeenAt(l, text+"a"); got != (impl.NodeOut{Code: impl.ErrSize}) {
				t.Errorf("SeenAt of a text of one byte more tells %d, want ErrSize alone", got.Code)
			}
			if len(impl.LayersOf(l, text)) > 0 || len(impl.LayersOf(l, text+"a")) > 0 {
				t.Errorf("LayersOf a text of %d bytes, or of one more, is not none", len(text))
			}
		}
	}
}

func TestLayersOfRefuses(t *testing.T) {
	for _, path := range wrongPaths() {
		if got := impl.LayersOf(layers(tree(dir("a", 1, 0))), path); len(got) > 0 {
			t.Errorf("LayersOf(.., %.30q) = %v, want none", path, got)
		}
	}
	for _, l := range wrongLayers() {
		for _, path := range []string{"", "a", "a/x", "n", "A", tooLong} {
			if got := impl.LayersOf(l, path); len(got) > 0 {
				t.Errorf("LayersOf(.., %.30q) = %v, want none, of%.300s", path, got, shownLayers(l))
			}
		}
	}
}

func TestPlainOf(t *testing.T) {
	for _, right := range someTrees() {
		var want impl.Tree
		for _, n := range right.Nodes {
			if n.Mark = 0; n.Kind != impl.KdGone {
				want.Nodes = append(want.Nodes, n)
			}
		}
		got := impl.PlainOf(right)
		if !sameOut(got, impl.TreeOut{Tree: want}) || !impl.TreePlain(got.Tree) {
			t.Errorf("PlainOf(%s) = %d %s, want %s", shown(right), got.Code, shown(got.Tree), shown(want))
		}
		if impl.TreePlain(right) && !impl.TreeSame(got.Tree, right) {
			t.Errorf("PlainOf of a plain tree is another one: %s", shown(right))
		}
	}
	for _, wrong := range wrongTrees() {
		if got := impl.PlainOf(wrong); !sameOut(got, impl.TreeOut{Code: impl.ErrForm}) {
			t.Errorf("PlainOf(%.200s) = %d %.80s, want ErrForm alone", shown(wrong), got.Code, shown(got.Tree))
		}
	}
}

func TestPlainOfKnown(t *testing.T) {
	marked := tree(gone("a", 1), dir("b", 2, 8), gone("b/g", 8), dir("b/h", 3, 1), file("b/h/x", "in", 4), dir("c", 5, 0), gone("d", 3))
	want := tree(dir("b", 2, 0), dir("b/h", 3, 0), file("b/h/x", "in", 4), dir("c", 5, 0))
	if got := impl.PlainOf(marked); !sameOut(got, impl.TreeOut{Tree: want}) {
		t.Errorf("PlainOf = %d %s, want %s", got.Code, shown(got.Tree), shown(want))
	}
	if got := impl.PlainOf(tree(gone("a", 1), gone("b", 8))); !sameOut(got, impl.TreeOut{}) {
		t.Errorf("PlainOf of gone ones alone = %d %s, want none", got.Code, shown(got.Tree))
	}
}

// copyOf is layers whose lists have room behind their ends, and whose texts are memory of their own.
func copyOf(l impl.Layers) impl.Layers {
	trees := make([]impl.Tree, 0, len(l.Trees)+2)
	for _, t := range l.Trees {
		nodes := make([]impl.Node, 0, len(t.Nodes)+2)
		for _, n := range t.Nodes {
			n.Path, n.Data = strings.Clone(n.Path), strings.Clone(n.Data)
			nodes = append(nodes, n)
		}
		trees = append(trees, impl.Tree{Nodes: nodes})
	}
	return impl.Layers{Trees: trees}
}

func TestOverAnswersAreNewMemory(t *testing.T) {
	l := copyOf(layers(tree(dir("abc", 1, 2), file("abc/def", "data", 2), gone("ghi", 4)), tree(file("jkl", "more", 3), dir("mno", 4, 0))))
	given := slices.Concat(l.Trees[0].Nodes, l.Trees[1].Nodes)
	answers := slices.Concat(impl.Over(l).Tree.Nodes, impl.PlainOf(l.Trees[0]).Tree.Nodes)
	for _, path := range []string{"abc", "abc/def", "ghi", "jkl", "mno"} {
		answers = append(answers, impl.SeenAt(l, path).Node)
	}
	if len(answers) != 12 {
		t.Errorf("%d answers, want 12: %+v", len(answers), answers)
	}
	for _, answer := range answers {
		if sharesNodes(answer, given) {
			t.Errorf("%+v shares memory with what was handed in", answer)
		}
	}
}

// What is handed in is not changed, nor what was answered ahead, whatever is done to an answer.
func TestOverArgumentsStayAsTheyAre(t *testing.T) {
	for _, l := range thrownLayers(60) {
		given := copyOf(l)
		for range 2 {
			over, plain, root := impl.Over(given), impl.PlainOf(given.Trees[0]), impl.LayersOf(given, "")
			if !sameOut(over, overOf(l)) {
				t.Fatalf("Over is another one than ahead, of%s", shownLayers(l))
			}
			for place := range over.Tree.Nodes {
				over.Tree.Nodes[place] = gone("changed", 1)
			}
			for place := range plain.Tree.Nodes {
				plain.Tree.Nodes[place] = gone("changed", 1)
			}
			for place := range root {
				root[place] = 99
			}
			impl.SeenAt(given, "a")
		}
		if shownLayers(given) != shownLayers(l) {
			t.Fatalf("what was handed in has changed:%s", shownLayers(given))
		}
	}
}
