package tests

import (
	"fmt"
	"slices"
	"strings"
	"testing"

	"loop.example/g00449/impl"
)

// placeOf is the place of a path in a tree, or -1.
func placeOf(t impl.Tree, path string) int {
	return slices.IndexFunc(t.Nodes, func(n impl.Node) bool { return n.Path == path })
}

// below: is path another one, that begins with all names of top?
func below(path string, top string) bool {
	return path != top && startsWith(path, top)
}

// parentOf is all names of a path but the last one.
func parentOf(path string) string {
	all := split(path)
	return strings.Join(all[:len(all)-1], "/")
}

// rising are nodes in the order of their names.
func rising(nodes []impl.Node) []impl.Node {
	return slices.SortedFunc(slices.Values(nodes), func(a, b impl.Node) int { return slices.Compare(split(a.Path), split(b.Path)) })
}

// pathsAround are the paths of a tree, some below and beside them, and others.
func pathsAround(t impl.Tree) []string {
	paths := []string{"a", "a/b", "a/x", "a/x/y", "a0", "ab", "b", "b/x", "zz", "zz/a", "a/b/c/d/e/f", longName, longPath}
	for _, n := range t.Nodes {
		paths = append(paths, n.Path, n.Path+"0")
		if len(split(n.Path)) < impl.MaxNames {
			paths = append(paths, n.Path+"/x", n.Path+"/new")
		}
	}
	slices.Sort(paths)
	return slices.DeleteFunc(slices.Compact(paths), func(path string) bool { return !impl.PathRight(path) })
}

// nodesAt are a node of each kind at a path.
func nodesAt(path string) []impl.Node {
	return []impl.Node{dir(path, 77, 0), dir(path, 78, 3), file(path, "put", 79), gone(path, 2)}
}

// put is what chapter 4 says of a right tree and a right node.
func put(t impl.Tree, n impl.Node) impl.TreeOut {
	if parent := parentOf(n.Path); parent != "" {
		place := placeOf(t, parent)
		if place < 0 {
			return impl.TreeOut{Code: impl.ErrNone}
		}
		if t.Nodes[place].Kind != impl.KdDir {
			return impl.TreeOut{Code: impl.ErrFile}
		}
	}
	if n.Kind != impl.KdDir && slices.ContainsFunc(t.Nodes, func(o impl.Node) bool { return below(o.Path, n.Path) }) {
		return impl.TreeOut{Code: impl.ErrDir}
	}
	place := placeOf(t, n.Path)
	if place < 0 && len(t.Nodes) == impl.MaxNodes {
		return impl.TreeOut{Code: impl.ErrFull}
	}
	nodes := append(slices.Clone(t.Nodes), n)
	if place >= 0 {
		nodes = slices.Delete(nodes, place, place+1)
	}
	return impl.TreeOut{Tree: impl.Tree{Nodes: rising(nodes)}}
}

// cut is what chapter 4 says of a right tree and a path.
func cut(t impl.Tree, path string) impl.TreeOut {
	if placeOf(t, path) < 0 {
		return impl.TreeOut{Code: impl.ErrNone}
	}
	return impl.TreeOut{Tree: impl.Tree{Nodes: notUnder(t, path)}}
}

func TestTreePut(t *testing.T) {
	for _, whole := range someTrees() {
		for _, path := range pathsAround(whole) {
			for _, n := range nodesAt(path) {
				if got, want := impl.TreePut(whole, n), put(whole, n); !sameOut(got, want) {
					t.Errorf("TreePut(%s, %+v) = %d %s, want %d %s", shown(whole), n, got.Code, shown(got.Tree), want.Code, shown(want.Tree))
				}
			}
		}
	}
}

// notUnder are the nodes of a tree that are not at a path, and not below it.
func notUnder(t impl.Tree, path string) []impl.Node {
	return slices.DeleteFunc(slices.Clone(t.Nodes), func(n impl.Node) bool { return startsWith(n.Path, path) })
}

// Promise 6: a node that is put into a tree is there, and all that is not under it is as ahead.
func TestPutNodeIsThereAndOthersAsAhead(t *testing.T) {
	for _, whole := range someTrees() {
		for _, path := range pathsAround(whole) {
			for _, n := range nodesAt(path) {
				out := impl.TreePut(whole, n)
				if out.Code != impl.OK {
					continue
				}
				if !impl.TreeRight(out.Tree) || impl.TreeGet(out.Tree, path) != (impl.NodeOut{Node: n}) {
					t.Errorf("%+v put into %s is not there: %s", n, shown(whole), shown(out.Tree))
				}
				if !slices.Equal(notUnder(out.Tree, path), notUnder(whole, path)) {
					t.Errorf("with %+v put into %s what is not under it is not as ahead: %s", n, shown(whole), shown(out.Tree))
				}
			}
		}
	}
}

func TestTreePutKnown(t *testing.T) {
	base := tree(dir("a", 1, 2), dir("a/b", 1, 0), file("a/b/x", "d", 2), dir("a/e", 3, 0), gone("c", 2), file("d", "", 4))
	full := impl.Tree{Nodes: append([]impl.Node{dir("a", 9, 0), file("a/x", "in", 9)}, flatTree(impl.MaxNodes-2).Nodes...)}
	cases := []struct {
		what string
		tree impl.Tree
		node impl.Node
		code int64
	}{
		{"into the root", base, file("b", "d", 1), impl.OK},
		{"into a directory", base, gone("a/b/y", 1), impl.OK},
		{"a directory over one with others in it", base, dir("a", 7, 8), impl.OK},
		{"a file over a directory with others in it", base, file("a", "", 7), impl.ErrDir},
		{"a gone one over a directory with others in it", base, gone("a/b", 7), impl.ErrDir},
		{"a file over an empty directory", base, file("a/e", "", 7), impl.OK},
		{"a gone one over an empty directory", base, gone("a/e", 7), impl.OK},
		{"a file over a file", base, file("a/b/x", "other", 7), impl.OK},
		{"a directory over a file", base, dir("d", 7, 0), impl.OK},
		{"a directory over a gone one", base, dir("c", 7, 1), impl.OK},
		{"under what is not there", base, file("b/x", "", 1), impl.ErrNone},
		{"two under what is there", base, file("a/c/x", "", 1), impl.ErrNone},
		{"under a file", base, file("d/x", "", 1), impl.ErrFile},
		{"under a gone one", base, dir("c/x", 1, 0), impl.ErrFile},
		{"two under a file", base, dir("d/x/y", 1, 0), impl.ErrNone},
		{"into the empty tree", impl.Tree{}, gone("a", 1), impl.OK},
		{"under nothing", impl.Tree{}, gone("a/b", 1), impl.ErrNone},
		{"the last one that has room", flatTree(impl.MaxNodes - 1), file("z", "", 1), impl.OK},
		{"one too many", full, file("z", "", 1), impl.ErrFull},
		{"one too many in a directory", full, dir("a/y", 1, 0), impl.ErrFull},
		{"over one of a full tree", full, dir("f000", 1, 0), impl.OK},
		{"a full tree, under what is not there", full, file("z/x", "", 1), impl.ErrNone},
		{"a full tree, under a file", full, file("f000/x", "", 1), impl.ErrFile},
		{"a full tree, over a directory with others in it", full, file("a", "", 1), impl.ErrDir},
	}
	for _, c := range cases {
		got := impl.TreePut(c.tree, c.node)
		if got.Code != c.code || c.code != impl.OK && len(got.Tree.Nodes) > 0 {
			t.Errorf("%s: TreePut = %d %s, want code %d", c.what, got.Code, shown(got.Tree), c.code)
		}
	}
}

func TestTreePutRefuses(t *testing.T) {
	form := impl.TreeOut{Code: impl.ErrForm}
	for _, n := range wrongNodes() {
		for _, whole := range append(someTrees(), wrongTrees()[:12]...) {
			if got := impl.TreePut(whole, n); !sameOut(got, form) {
				t.Errorf("TreePut(%.80s, %.80q) = %d %.80s, want ErrForm alone", shown(whole), fmt.Sprint(n), got.Code, shown(got.Tree))
			}
		}
	}
	for _, wrong := range wrongTrees() {
		for _, n := range []impl.Node{file("a", "", 0), dir("zz", 0, 0), gone("zz/a", 1), file("a/x", "", 0)} {
			if got := impl.TreePut(wrong, n); !sameOut(got, form) {
				t.Errorf("TreePut(%.200s, %+v) = %d %.80s, want ErrForm alone", shown(wrong), n, got.Code, shown(got.Tree))
			}
		}
	}
}

// A wrong node below what is not there, below a file, over others, or into a full tree: that it is wrong is told first.
func TestTreePutTellsFormFirst(t *testing.T) {
	base := tree(dir("a", 1, 0), file("a/x", "", 1))
	for _, path := range []string{"b/x", "a/x/y", "a"} {
		n := file(path, "", -1)
		if got := impl.TreePut(base, n); got.Code != impl.ErrForm {
			t.Errorf("TreePut(%s, %+v) tells %d, want ErrForm", shown(base), n, got.Code)
		}
	}
	if got := impl.TreePut(flatTree(impl.MaxNodes), file("z", "", -1)); got.Code != impl.ErrForm {
		t.Errorf("TreePut of a wrong node into a full tree tells %d, want ErrForm", got.Code)
	}
}

func TestTreeGet(t *testing.T) {
	for _, whole := range someTrees() {
		for _, path := range pathsAround(whole) {
			want := impl.NodeOut{Code: impl.ErrNone}
			if place := placeOf(whole, path); place >= 0 {
				want = impl.NodeOut{Node: whole.Nodes[place]}
			}
			if got := impl.TreeGet(whole, path); got != want {
				t.Errorf("TreeGet(%s, %q) = %+v, want %+v", shown(whole), path, got, want)
			}
		}
	}
}

func TestTreeCut(t *testing.T) {
	for _, whole := range someTrees() {
		for _, path := range pathsAround(whole) {
			got, want := impl.TreeCut(whole, path), cut(whole, path)
			if !sameOut(got, want) || !impl.TreeRight(got.Tree) {
				t.Errorf("TreeCut(%s, %q) = %d %s, want %d %s", shown(whole), path, got.Code, shown(got.Tree), want.Code, shown(want.Tree))
			}
		}
	}
}

func TestTreeCutKnown(t *testing.T) {
	base := tree(dir("a", 1, 0), dir("a/b", 1, 0), file("a/b/x", "d", 2), file("a/b0", "", 3), file("a0", "", 3), gone("b", 2))
	known := []struct {
		path string
		want impl.Tree
	}{
		{"a", tree(file("a0", "", 3), gone("b", 2))},
		{"a/b", tree(dir("a", 1, 0), file("a/b0", "", 3), file("a0", "", 3), gone("b", 2))},
		{"a/b/x", tree(dir("a", 1, 0), dir("a/b", 1, 0), file("a/b0", "", 3), file("a0", "", 3), gone("b", 2))},
		{"a0", tree(dir("a", 1, 0), dir("a/b", 1, 0), file("a/b/x", "d", 2), file("a/b0", "", 3), gone("b", 2))},
		{"b", tree(dir("a", 1, 0), dir("a/b", 1, 0), file("a/b/x", "d", 2), file("a/b0", "", 3), file("a0", "", 3))},
	}
	for _, k := range known {
		if got := impl.TreeCut(base, k.path); !sameOut(got, impl.TreeOut{Tree: k.want}) {
			t.Errorf("TreeCut of %q = %d %s, want %s", k.path, got.Code, shown(got.Tree), shown(k.want))
		}
	}
}

// The root, texts that are no paths and trees that are not right are refused alike by TreeGet and TreeCut.
func TestTreeGetAndCutRefuse(t *testing.T) {
	trees := append(someTrees(), wrongTrees()...)
	for _, whole := range trees {
		for _, path := range append(wrongPaths(), "") {
			code := formOrSize(path, "").Code
			if got := impl.TreeGet(whole, path); got != (impl.NodeOut{Code: code}) {
				t.Errorf("TreeGet(%.80s, %.30q) = %.80q, want %d alone", shown(whole), path, fmt.Sprint(got), code)
			}
			if got := impl.TreeCut(whole, path); !sameOut(got, impl.TreeOut{Code: code}) {
				t.Errorf("TreeCut(%.80s, %.30q) = %d %.80s, want %d alone", shown(whole), path, got.Code, shown(got.Tree), code)
			}
		}
	}
	for _, wrong := range wrongTrees() {
		for _, path := range []string{"a", "n", "zz", "a/x", "f000"} {
			if got := impl.TreeGet(wrong, path); got != (impl.NodeOut{Code: impl.ErrForm}) {
				t.Errorf("TreeGet(%.200s, %q) = %.80q, want ErrForm alone", shown(wrong), path, fmt.Sprint(got))
			}
			if got := impl.TreeCut(wrong, path); !sameOut(got, impl.TreeOut{Code: impl.ErrForm}) {
				t.Errorf("TreeCut(%.200s, %q) = %d %.80s, want ErrForm alone", shown(wrong), path, got.Code, shown(got.Tree))
			}
		}
	}
}

// Promise 8: the names of a directory rise, and of each there is a node.
func TestNamesRiseAndOfEachThereIsANode(t *testing.T) {
	for _, whole := range someTrees() {
		for _, path := range append(pathsAround(whole), "") {
			names := impl.TreeNames(whole, path)
			for place, name := range names {
				if place > 0 && names[place-1] >= name {
					t.Errorf("the names of %q do not rise: %q", path, names)
				}
				full := impl.PathJoin(path, name)
				if full.Code != impl.OK || impl.TreeGet(whole, full.Text).Code != impl.OK {
					t.Errorf("of %q in %q there is no node", name, path)
				}
			}
			if place := placeOf(whole, path); path == "" || place >= 0 && whole.Nodes[place].Kind == impl.KdDir {
				var want []string
				for _, n := range whole.Nodes {
					if parentOf(n.Path) == path {
						want = append(want, split(n.Path)[len(split(path))])
					}
				}
				slices.Sort(want)
				if !slices.Equal(names, want) {
					t.Errorf("TreeNames(%s, %q) = %q, want %q", shown(whole), path, names, want)
				}
			} else if len(names) > 0 {
				t.Errorf("TreeNames(%s, %q) = %q, want none", shown(whole), path, names)
			}
		}
	}
}

func TestTreeNamesKnown(t *testing.T) {
	base := tree(dir("a", 1, 0), dir("a/a", 2, 0), file("a/a/z", "1", 3), gone("a/b", 4), dir("a0", 5, 0), file("a0/a", "3", 6), dir("a_", 7, 0), file("aa", "4", 8), gone("b", 1))
	known := []struct {
		path string
		want []string
	}{
		{"", []string{"a", "a0", "a_", "aa", "b"}}, {"a", []string{"a", "b"}}, {"a/a", []string{"z"}}, {"a0", []string{"a"}}, {"a_", nil},
		{"a/a/z", nil}, {"a/b", nil}, {"aa", nil}, {"b", nil}, {"c", nil}, {"a/c", nil}, {"aa/x", nil},
	}
	for _, k := range known {
		if got := impl.TreeNames(base, k.path); !slices.Equal(got, k.want) {
			t.Errorf("TreeNames of %q = %q, want %q", k.path, got, k.want)
		}
	}
}

func TestTreeNamesRefuses(t *testing.T) {
	for _, whole := range someTrees() {
		for _, path := range wrongPaths() {
			if got := impl.TreeNames(whole, path); len(got) > 0 {
				t.Errorf("TreeNames(%.80s, %.30q) = %q, want none", shown(whole), path, got)
			}
		}
	}
	for _, wrong := range wrongTrees() {
		for _, path := range []string{"", "a", "n"} {
			if got := impl.TreeNames(wrong, path); len(got) > 0 {
				t.Errorf("TreeNames(%.200s, %q) = %q, want none", shown(wrong), path, got)
			}
		}
	}
}

// ownTree is a tree whose texts are memory of its own.
func ownTree() impl.Tree {
	whole := tree(dir("abc", 1, 0), file("abc/def", "data", 2), file("ghi", "more", 3))
	for place := range whole.Nodes {
		whole.Nodes[place].Path = strings.Clone(whole.Nodes[place].Path)
		whole.Nodes[place].Data = strings.Clone(whole.Nodes[place].Data)
	}
	return whole
}

// sharesNodes: does a node have a text of one of the others?
func sharesNodes(n impl.Node, others []impl.Node) bool {
	return slices.ContainsFunc(others, func(o impl.Node) bool {
		return sharesMemory(n.Path, o.Path) || sharesMemory(n.Path, o.Data) || sharesMemory(n.Data, o.Path) || sharesMemory(n.Data, o.Data)
	})
}

func TestTreeAnswersAreNewMemory(t *testing.T) {
	whole := ownTree()
	n := file(strings.Clone("abc/new"), strings.Clone("fresh"), 4)
	answers := append(impl.TreePut(whole, n).Tree.Nodes, impl.TreeCut(whole, "ghi").Tree.Nodes...)
	answers = append(answers, impl.TreeGet(whole, "abc/def").Node)
	for _, answer := range answers {
		if sharesNodes(answer, append(whole.Nodes, n)) {
			t.Errorf("%+v shares memory with what was handed in", answer)
		}
	}
	for _, name := range impl.TreeNames(whole, "") {
		if sharesNodes(impl.Node{Path: name}, whole.Nodes) {
			t.Errorf("the name %q shares memory with what was handed in", name)
		}
	}
	if len(answers) != 7 || len(impl.TreeNames(whole, "")) != 2 {
		t.Errorf("%d answers and %q", len(answers), impl.TreeNames(whole, ""))
	}
}

// What is handed in is not changed, not even where its list has room behind its end.
func TestTreeArgumentsStayAsTheyAre(t *testing.T) {
	whole := ownTree()
	room := append(slices.Clone(whole.Nodes), file("spare", "kept", 9))
	given := impl.Tree{Nodes: room[:len(whole.Nodes)]}
	for _, n := range []impl.Node{dir("zz", 1, 0), dir("aa", 1, 0), dir("abc", 9, 1), file("ghi", "x", 1)} {
		impl.TreePut(given, n).Tree.Nodes[0] = gone("changed", 1)
	}
	impl.TreeCut(given, "ghi").Tree.Nodes[0] = gone("changed", 1)
	impl.TreeCut(given, "abc").Tree.Nodes[0] = gone("changed", 1)
	impl.TreeNames(given, "")[0] = "changed"
	if !slices.Equal(room, append(slices.Clone(whole.Nodes), file("spare", "kept", 9))) {
		t.Errorf("what was handed in has changed: %+v", room)
	}
}
