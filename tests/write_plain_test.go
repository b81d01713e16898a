package tests

import (
	"math"
	"slices"
	"strings"
	"testing"

	"loop.example/g00449/impl"
)

// plainTrees are plain, of the trees of chapter 4 and others.
func plainTrees() []impl.Tree {
	all := []impl.Tree{}
	for _, whole := range someTrees() {
		all = append(all, plainly(impl.TreeOut{Tree: whole}).Tree)
	}
	d := dice{state: 8}
	for len(all) < 120 {
		all = append(all, plainly(impl.TreeOut{Tree: d.thrownTree([]string{"a", "a0", "x"}, 12)}).Tree)
	}
	return all
}

// All that chapter 8 says of a plain tree is held against what the program tells.
func TestPlainAgainstTheWordsOfTheDocument(t *testing.T) {
	count := map[int64]int{}
	for _, whole := range plainTrees() {
		for _, path := range pathsAround(whole) {
			for _, d := range deedsAt(path) {
				got, want := d.plain(whole), d.wantPlain(whole)
				changesTree(t, d, whole, got, want)
				if got.Code == impl.OK && !impl.TreePlain(got.Tree) {
					t.Errorf("%+v makes of %s what is not plain: %s", d, shown(whole), shown(got.Tree))
				}
				count[want.Code]++
			}
		}
	}
	for _, code := range []int64{impl.OK, impl.ErrNone, impl.ErrThere, impl.ErrFull, impl.ErrState, impl.ErrDir, impl.ErrFile} {
		if count[code] < 50 {
			t.Errorf("the code %d came %d times: %v", code, count[code], count)
		}
	}
}

func TestPlainKnown(t *testing.T) {
	whole := tree(dir("a", 1, 0), dir("a/d", 2, 0), file("a/x", "in", 3), file("f", "", 4))
	for _, k := range []struct {
		what string
		got  impl.TreeOut
		code int64
		want []impl.Node
	}{
		{"a new file", impl.PlainWrite(whole, "a/d/y", "new", 9), impl.OK, []impl.Node{dir("a", 1, 0), dir("a/d", 2, 0), file("a/d/y", "new", 9), file("a/x", "in", 3), file("f", "", 4)}},
		{"a file again", impl.PlainWrite(whole, "a/x", "", 0), impl.OK, []impl.Node{dir("a", 1, 0), dir("a/d", 2, 0), file("a/x", "", 0), file("f", "", 4)}},
		{"in the root", impl.PlainWrite(whole, "b", "b", impl.MaxTime), impl.OK, []impl.Node{dir("a", 1, 0), dir("a/d", 2, 0), file("a/x", "in", 3), file("b", "b", impl.MaxTime), file("f", "", 4)}},
		{"a file for a directory", impl.PlainWrite(whole, "a", "new", 9), impl.ErrDir, nil},
		{"a file for an empty directory", impl.PlainWrite(whole, "a/d", "new", 9), impl.ErrDir, nil},
		{"a file in nothing", impl.PlainWrite(whole, "b/x", "new", 9), impl.ErrNone, nil},
		{"a file in a file", impl.PlainWrite(whole, "f/x", "new", 9), impl.ErrFile, nil},
		{"a file in nothing in a file", impl.PlainWrite(whole, "f/x/y", "new", 9), impl.ErrNone, nil},
		{"a new directory", impl.PlainDir(whole, "a/d/d", 9), impl.OK, []impl.Node{dir("a", 1, 0), dir("a/d", 2, 0), dir("a/d/d", 9, 0), file("a/x", "in", 3), file("f", "", 4)}},
		{"a directory again", impl.PlainDir(whole, "a", 9), impl.ErrThere, nil},
		{"a directory for a file", impl.PlainDir(whole, "f", 9), impl.ErrThere, nil},
		{"a directory in nothing", impl.PlainDir(whole, "b/x", 9), impl.ErrNone, nil},
		{"a directory in a file", impl.PlainDir(whole, "f/x", 9), impl.ErrFile, nil},
		{"a file goes", impl.PlainRemove(whole, "a/x"), impl.OK, []impl.Node{dir("a", 1, 0), dir("a/d", 2, 0), file("f", "", 4)}},
		{"an empty directory goes", impl.PlainRemove(whole, "a/d"), impl.OK, []impl.Node{dir("a", 1, 0), file("a/x", "in", 3), file("f", "", 4)}},
		{"nothing goes", impl.PlainRemove(whole, "b"), impl.ErrNone, nil},
		{"nothing in a file goes", impl.PlainRemove(whole, "f/x"), impl.ErrNone, nil},
		{"something under it", impl.PlainRemove(whole, "a"), impl.ErrState, nil},
		{"a file has another time", impl.PlainTouch(whole, "a/x", 9), impl.OK, []impl.Node{dir("a", 1, 0), dir("a/d", 2, 0), file("a/x", "in", 9), file("f", "", 4)}},
		{"a directory has another time", impl.PlainTouch(whole, "a", 0), impl.OK, []impl.Node{dir("a", 0, 0), dir("a/d", 2, 0), file("a/x", "in", 3), file("f", "", 4)}},
		{"nothing has another time", impl.PlainTouch(whole, "b", 9), impl.ErrNone, nil},
		{"nothing in a file has another time", impl.PlainTouch(whole, "a/x/y", 9), impl.ErrNone, nil},
	} {
		changesTree(t, k.what, whole, k.got, impl.TreeOut{Tree: tree(k.want...), Code: k.code})
	}
}

// A tree of just MaxNodes nodes takes what is there already, and no more; one more node is not right.
func TestPlainByCountOfNodes(t *testing.T) {
	for count, code := range map[int]int64{impl.MaxNodes - 1: impl.OK, impl.MaxNodes: impl.ErrFull, impl.MaxNodes + 1: impl.ErrForm} {
		whole := numbered("f", count)
		for what, got := range map[string]impl.TreeOut{"PlainWrite": impl.PlainWrite(whole, "new", "", 1), "PlainDir": impl.PlainDir(whole, "new", 1)} {
			if got.Code != code || code != impl.OK && len(got.Tree.Nodes) != 0 || code == impl.OK && len(got.Tree.Nodes) != impl.MaxNodes {
				t.Errorf("%s into %d nodes: %d and %d nodes, want %d", what, count, got.Code, len(got.Tree.Nodes), code)
			}
		}
	}
	full := fullTree("f")
	for _, d := range []deed{{toWrite, "f007", "again", 1}, {toDrop, "f007", "", 0}, {toTouch, "f007", "", 1}} {
		changesTree(t, d, full, d.plain(full), d.wantPlain(full))
		if d.plain(full).Code != impl.OK {
			t.Errorf("%+v is refused", d)
		}
	}
	// Where a full tree has no parent for it, or a file, that is told ahead of that there is no room.
	changesTree(t, "no parent", full, impl.PlainWrite(full, "n/x", "", 1), impl.TreeOut{Code: impl.ErrNone})
	changesTree(t, "a file above", full, impl.PlainDir(full, "f007/x", 1), impl.TreeOut{Code: impl.ErrFile})
}

// unfitDeeds are not right, by their path, their data or their time; they are as long as may be handed in.
func unfitDeeds() []deed {
	all := []deed{}
	for _, path := range append(wrongPaths(), "") {
		if len(path) <= impl.MaxBytes {
			all = append(all, deedsAt(path)...)
		}
	}
	for _, path := range []string{"a", "a/x", "new", "new/new"} {
		for _, time := range []int64{math.MinInt64, -1, impl.MaxTime + 1, math.MaxInt64} {
			all = append(all, deed{toWrite, path, "", time}, deed{toMake, path, "", time}, deed{toTouch, path, "", time})
		}
		for _, data := range []string{allBytes(61), allBytes(impl.MaxBytes)} {
			all = append(all, deed{toWrite, path, data, 1})
		}
	}
	return all
}

// longDeeds have a text that is longer than any that may be handed in.
func longDeeds() []deed {
	return append(deedsAt(tooLong), append(deedsAt(strings.Repeat("/", impl.MaxBytes+1)),
		deed{toWrite, "a", tooLong, 1}, deed{toWrite, "a", tooLong, -1}, deed{toWrite, "", tooLong, 1}, deed{toWrite, tooLong, tooLong, 1}, deed{toMake, tooLong, "", -1}, deed{toTouch, tooLong, "", impl.MaxTime + 1})...)
}

// What may just be is taken.
func TestPlainTakesWhatMayBe(t *testing.T) {
	whole := tree(dir("a", 1, 0), file("a/x", "in", 2))
	for _, time := range []int64{0, 1, impl.MaxTime} {
		for _, data := range []string{"", allBytes(1), allBytes(60)} {
			got := impl.PlainWrite(whole, "a/x", data, time)
			changesTree(t, "at its limits", whole, got, impl.TreeOut{Tree: tree(dir("a", 1, 0), file("a/x", data, time))})
		}
		changesTree(t, "at its limits", whole, impl.PlainDir(whole, "b", time), impl.TreeOut{Tree: tree(dir("a", 1, 0), file("a/x", "in", 2), dir("b", time, 0))})
		changesTree(t, "at its limits", whole, impl.PlainTouch(whole, "a", time), impl.TreeOut{Tree: tree(dir("a", time, 0), file("a/x", "in", 2))})
	}
	long := longTree()
	changesTree(t, "as long as may be", long, impl.PlainRemove(plainly(impl.TreeOut{Tree: long}).Tree, long.Nodes[39].Path), impl.TreeOut{Tree: impl.Tree{Nodes: plainly(impl.TreeOut{Tree: long}).Tree.Nodes[:39]}})
}

func TestPlainRefuses(t *testing.T) {
	form, size := impl.TreeOut{Code: impl.ErrForm}, impl.TreeOut{Code: impl.ErrSize}
	notPlain := []impl.Tree{tree(gone("a", 1)), tree(dir("a", 1, 1)), tree(dir("a", 1, 0), gone("a/x", 8)), tree(dir("a", 1, 0), dir("a/x", 1, 3)), tree(file("f", "", 1), gone("z", 1)), tree(file("f", "", 1), dir("z", 1, 1))}
	for _, whole := range append(notPlain, wrongTrees()...) {
		for _, path := range []string{"a", "a/x", "f", "new", "n/x", "z", "", "A", strings.Repeat("a", impl.MaxBytes)} {
			for _, d := range deedsAt(path) {
				changesTree(t, d, whole, d.plain(whole), form)
			}
		}
		for _, d := range longDeeds() {
			changesTree(t, "too long", whole, d.plain(whole), size)
		}
	}
	for _, whole := range []impl.Tree{{}, tree(dir("a", 1, 0), file("a/x", "in", 2)), fullTree("f")} {
		for _, d := range unfitDeeds() {
			changesTree(t, d, whole, d.plain(whole), form)
		}
		for _, d := range longDeeds() {
			changesTree(t, "too long", whole, d.plain(whole), size)
		}
	}
}

func TestPlainAnswersAreNewMemory(t *testing.T) {
	whole := ownTree()
	given := slices.Clone(whole.Nodes)
	path, data := strings.Clone("abc/new"), strings.Clone("fresh")
	answers := [][]impl.Node{
		impl.PlainWrite(whole, path, data, 1).Tree.Nodes, impl.PlainWrite(whole, given[1].Path, given[2].Data, 1).Tree.Nodes, impl.PlainDir(whole, path, 1).Tree.Nodes,
		impl.PlainRemove(whole, given[1].Path).Tree.Nodes, impl.PlainTouch(whole, given[1].Path, 9).Tree.Nodes,
	}
	for number, answer := range answers {
		if len(answer) != []int{4, 3, 4, 2, 3}[number] {
			t.Errorf("answer %d is %+v", number, answer)
		}
		for _, n := range answer {
			if sharesNodes(n, append(given, file(path, data, 1))) {
				t.Errorf("%+v shares memory with what was handed in", n)
			}
		}
		clear(answer)
	}
	if !slices.Equal(whole.Nodes, given) || !slices.Equal(given, ownTree().Nodes) {
		t.Errorf("what was handed in has changed: %+v", whole.Nodes)
	}
}
