package tests

import (
	"fmt"
	"slices"

	"loop.example/g00449/impl"
)

func layers(trees ...impl.Tree) impl.Layers {
	return impl.Layers{Trees: trees}
}

// view is what chapter 5 says of one path: what is told of it, and who has a part in it.
type view struct {
	out   impl.NodeOut
	parts []int64
}

// viewOf goes by the words of chapter 5, from a path to its parent.
func viewOf(l impl.Layers, path string) view {
	if path == "" {
		all := []int64{}
		for number := range l.Trees {
			all = append(all, int64(number))
		}
		return view{out: impl.NodeOut{Code: impl.ErrForm}, parts: all}
	}
	numbers, nodes := []int64{}, []impl.Node{}
	for _, number := range viewOf(l, parentOf(path)).parts {
		if place := placeOf(l.Trees[number], path); place >= 0 {
			numbers, nodes = append(numbers, number), append(nodes, l.Trees[number].Nodes[place])
		}
	}
	if len(nodes) == 0 || nodes[0].Kind == impl.KdGone && nodes[0].Mark == 1 {
		return view{out: impl.NodeOut{Code: impl.ErrNone}}
	}
	switch first := nodes[0]; first.Kind {
	case impl.KdGone:
		return view{out: impl.NodeOut{Node: gone(path, first.Mark-1)}}
	case impl.KdFile:
		return view{out: impl.NodeOut{Node: first}}
	}
	return dirView(numbers, nodes)
}

// dirView is what is seen where the first of those that count is a directory.
func dirView(numbers []int64, nodes []impl.Node) view {
	end := slices.IndexFunc(nodes, func(n impl.Node) bool { return n.Kind != impl.KdDir })
	if end < 0 {
		end = len(nodes)
	}
	marked := slices.IndexFunc(nodes[:end], func(n impl.Node) bool { return n.Mark > 0 })
	greatest := int64(0)
	switch {
	case marked >= 0:
		end, greatest = marked+1, nodes[marked].Mark
	case end < len(nodes) && nodes[end].Kind == impl.KdGone:
		greatest = nodes[end].Mark
	}
	told := dir(nodes[0].Path, nodes[0].Time, max(greatest-1, 0))
	return view{out: impl.NodeOut{Node: told}, parts: numbers[:end]}
}

// pathsOver are the root, the paths of all layers, and some that none of them has.
func pathsOver(l impl.Layers) []string {
	paths := []string{"", "a", "a/x", "q", "q/q", "a/q", "a/x/q", "a/b/c/d/e/f"}
	for _, t := range l.Trees {
		for _, n := range t.Nodes {
			paths = append(paths, n.Path)
		}
	}
	slices.SortFunc(paths, func(a, b string) int { return slices.Compare(split(a), split(b)) })
	return slices.Compact(paths)
}

// toldOf is all that is told of layers, path by path, as chapter 5 says it, however many nodes that are.
func toldOf(l impl.Layers) impl.Tree {
	var t impl.Tree
	for _, path := range pathsOver(l) {
		if v := viewOf(l, path); v.out.Code == impl.OK {
			t.Nodes = append(t.Nodes, v.out.Node)
		}
	}
	return t
}

// overOf is the tree of all, if it may have so many nodes.
func overOf(l impl.Layers) impl.TreeOut {
	t := toldOf(l)
	if len(t.Nodes) > impl.MaxNodes {
		return impl.TreeOut{Code: impl.ErrFull}
	}
	return impl.TreeOut{Tree: t}
}

// shownLayers is layers as a text, a line each.
func shownLayers(l impl.Layers) string {
	text := ""
	for number, t := range l.Trees {
		text += fmt.Sprintf("\n  %d: %s", number, shown(t))
	}
	return text
}

// dice are numbers that look thrown, always the same ones.
type dice struct {
	state uint64
}

func (d *dice) below(count int) int {
	d.state = d.state*6364136223846793005 + 1442695040888963407
	return int((d.state >> 33) % uint64(count))
}

// thrownNode has mostly small marks, as those are what layers tell apart.
func (d *dice) thrownNode(path string) impl.Node {
	mark := int64(1 + d.below(3))
	if d.below(8) == 0 {
		mark = int64(1 + d.below(8))
	}
	switch d.below(8) {
	case 0:
		return gone(path, mark)
	case 1:
		return file(path, fmt.Sprint("data", d.below(100)), int64(d.below(1000)))
	case 2, 3:
		return dir(path, int64(d.below(1000)), mark)
	}
	return dir(path, int64(d.below(1000)), 0)
}

// thrownTree is a right tree of few names, so that layers meet each other at many paths.
func (d *dice) thrownTree(names []string, most int) impl.Tree {
	var t impl.Tree
	open := []string{""}
	for len(open) > 0 {
		path := open[0]
		open = open[1:]
		for _, name := range names {
			if len(t.Nodes) == most || d.below(3) == 0 || len(split(path)) == impl.MaxNames {
				continue
			}
			n := d.thrownNode(join(path, name))
			t.Nodes = append(t.Nodes, n)
			if n.Kind == impl.KdDir {
				open = append(open, n.Path)
			}
		}
	}
	t.Nodes = rising(t.Nodes)
	return t
}

func join(path string, name string) string {
	if path == "" {
		return name
	}
	return path + "/" + name
}

// thrownLayers are right layers of one to MaxLayers trees.
func thrownLayers(count int) []impl.Layers {
	d := dice{state: 5}
	all := []impl.Layers{}
	for range count {
		most := []int{3, 8, 12, impl.MaxNodes}[d.below(4)]
		names := [][]string{{"a"}, {"a", "x"}, {"a", "a0", "b"}}[d.below(3)]
		var l impl.Layers
		for range 1 + d.below(impl.MaxLayers) {
			l.Trees = append(l.Trees, d.thrownTree(names, most))
		}
		all = append(all, l)
	}
	return all
}

// stackedLayers are all that one to MaxLayers layers may have at a path, each way over each other one. A
// directory has a file in it that all name alike, and one of its own, so that it shows who has a part.
func stackedLayers() []impl.Layers {
	all := []impl.Layers{}
	stacked := []impl.Layers{{}}
	for number := range impl.MaxLayers {
		var next []impl.Layers
		for _, l := range stacked {
			for _, t := range treesAtA(number) {
				next = append(next, layers(append(slices.Clone(l.Trees), t)...))
			}
		}
		all, stacked = append(all, next...), next
	}
	return all
}

// treesAtA are what the layer of that number may have at the path a.
func treesAtA(number int) []impl.Tree {
	time := int64(10 * (number + 1))
	all := []impl.Tree{{}, tree(file("a", fmt.Sprint("over", number), time)), tree(gone("a", 1)), tree(gone("a", 2)), tree(gone("a", 8))}
	for _, mark := range []int64{0, 1, 3} {
		all = append(all, tree(dir("a", time, mark), file(fmt.Sprint("a/own", number), "", time+1), file("a/x", fmt.Sprint("in", number), time+2)))
	}
	return all
}

// someLayers are right layers, thrown and written out, with what the trees of chapter 4 have.
func someLayers() []impl.Layers {
	all := append(thrownLayers(300), stackedLayers()...)
	for place, t := range someTrees() {
		other := someTrees()[(place*7+3)%len(someTrees())]
		all = append(all, layers(t), layers(t, other), layers(other, t, impl.Tree{}), layers(impl.Tree{}, t, other, t))
	}
	return all
}
