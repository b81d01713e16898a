package tests

import (
	"testing"

	"loop.example/g00449/impl"
)

// All that chapter 8 says of a nest is held against what the program tells.
func TestChangesAgainstTheWordsOfTheDocument(t *testing.T) {
	t.Parallel()
	count := map[int64]int{}
	for _, n := range changedNests() {
		sight := sightOf(n)
		for _, path := range pathsToChange(n) {
			for _, d := range deedsAt(path) {
				want := d.wantNest(n, sight)
				got := d.nest(n)
				changes(t, d, n, got, want)
				if got.Code == impl.OK && !impl.NestRight(got.Nest) {
					t.Fatalf("%+v makes what is not right:%s", d, shownNest(got.Nest))
				}
				count[want.Code]++
			}
		}
	}
	for _, code := range []int64{impl.OK, impl.ErrNone, impl.ErrThere, impl.ErrFull, impl.ErrState, impl.ErrDir, impl.ErrFile} {
		if count[code] < 200 {
			t.Errorf("the code %d came %d times: %v", code, count[code], count)
		}
	}
}

// leafCase says what the first leaf is behind a change, or with what code that is refused.
type leafCase struct {
	what string
	n    []impl.Item
	d    deed
	code int64
	leaf []impl.Node
}

func (c leafCase) run(t *testing.T) {
	t.Helper()
	want := impl.NestOut{Code: c.code}
	if c.code == impl.OK {
		want.Nest = withLeaf(c.n, tree(c.leaf...))
	}
	changes(t, c.what, c.n, c.d.nest(c.n), want)
}

func TestWriteFileKnown(t *testing.T) {
	low := leaf(dir("a", 3, 0), dir("a/d", 4, 0), file("a/x", "low", 5), file("f", "", 6))
	top := leaf(dir("a", 1, 2), file("a/y", "top", 2))
	inA := leaf(dir("a", 7, 0), file("a/z", "mid", 7))
	for _, c := range []leafCase{
		{"into a leaf alone", low, deed{toWrite, "a/d/n", "new", 9}, impl.OK, []impl.Node{dir("a", 3, 0), dir("a/d", 4, 0), file("a/d/n", "new", 9), file("a/x", "low", 5), file("f", "", 6)}},
		{"where one is, below", nested(leaf(), low), deed{toWrite, "a/x", "new", 9}, impl.OK, []impl.Node{dir("a", 3, 0), file("a/x", "new", 9)}},
		{"two directories down", nested(leaf(), low), deed{toWrite, "a/d/n", "new", 9}, impl.OK, []impl.Node{dir("a", 3, 0), dir("a/d", 4, 0), file("a/d/n", "new", 9)}},
		{"in the root", nested(leaf(), low), deed{toWrite, "n", "", 0}, impl.OK, []impl.Node{file("n", "", 0)}},
		{"the leaf has the directory", nested(top, low), deed{toWrite, "a/x", "new", 9}, impl.OK, []impl.Node{dir("a", 1, 2), file("a/x", "new", 9), file("a/y", "top", 2)}},
		{"the leaf has the file", nested(top, low), deed{toWrite, "a/y", "new", 9}, impl.OK, []impl.Node{dir("a", 1, 2), file("a/y", "new", 9)}},
		{"the leaf has it gone", nested(leaf(gone("f", 1)), low), deed{toWrite, "f", "new", 9}, impl.OK, []impl.Node{file("f", "new", 9)}},
		{"the leaf alone has it gone", leaf(gone("f", 8)), deed{toWrite, "f", "new", 9}, impl.OK, []impl.Node{file("f", "new", 9)}},
		{"the time of the first that has it", nested(nested(leaf(), inA), low), deed{toWrite, "a/x", "new", 9}, impl.OK, []impl.Node{dir("a", 7, 0), file("a/x", "new", 9)}},
		{"a path above is gone in the leaf, by 1 of 2", nested(nested(leaf(gone("a", 1)), inA), low), deed{toWrite, "a/x", "new", 9}, impl.OK, []impl.Node{dir("a", 3, 1), file("a/x", "new", 9)}},
		{"a path above is gone in the leaf, by 2 of 3", nested(nested(nested(leaf(gone("a", 2))), inA), low), deed{toWrite, "a/d/n", "new", 9}, impl.OK, []impl.Node{dir("a", 3, 2), dir("a/d", 4, 0), file("a/d/n", "new", 9)}},
		{"a path above is gone further down", nested(nested(leaf(dir("a", 1, 0), gone("a/d", 1)), inA), low), deed{toWrite, "a/d/n", "new", 9}, impl.OK, []impl.Node{dir("a", 1, 0), dir("a/d", 4, 1), file("a/d/n", "new", 9)}},
		{"a path above is gone for all", nested(nested(leaf(gone("a", 2)), inA), low), deed{toWrite, "a/x", "new", 9}, impl.ErrNone, nil},
		{"a path above is gone in a leaf alone", leaf(gone("a", 1)), deed{toWrite, "a/x", "new", 9}, impl.ErrNone, nil},
		{"other marks of the leaf stay", nested(leaf(gone("b", 1), dir("c", 1, 8)), low), deed{toWrite, "a/x", "new", 9}, impl.OK, []impl.Node{dir("a", 3, 0), file("a/x", "new", 9), gone("b", 1), dir("c", 1, 8)}},
		{"a directory is seen", nested(leaf(), low), deed{toWrite, "a", "new", 9}, impl.ErrDir, nil},
		{"an empty directory is seen", nested(leaf(), low), deed{toWrite, "a/d", "new", 9}, impl.ErrDir, nil},
		{"a directory was there, and is gone", nested(leaf(gone("a", 1)), low), deed{toWrite, "a", "new", 9}, impl.OK, []impl.Node{file("a", "new", 9)}},
		{"in nothing", nested(leaf(), low), deed{toWrite, "b/x", "new", 9}, impl.ErrNone, nil},
		{"in a file", nested(leaf(), low), deed{toWrite, "f/x", "new", 9}, impl.ErrFile, nil},
		{"in a file that a directory lies below", nested(leaf(file("a", "", 1)), low), deed{toWrite, "a/x", "new", 9}, impl.ErrFile, nil},
		{"the desk", impl.DeskNest(), deed{toWrite, "a/x", "new", 9}, impl.OK, []impl.Node{dir("a", 1, 0), file("a/x", "new", 9)}},
	} {
		c.run(t)
	}
}

func TestMakeDirKnown(t *testing.T) {
	low := leaf(dir("a", 3, 0), dir("a/d", 4, 0), file("a/x", "low", 5), file("f", "", 6))
	for _, c := range []leafCase{
		{"in a leaf alone", low, deed{toMake, "b", "", 9}, impl.OK, []impl.Node{dir("a", 3, 0), dir("a/d", 4, 0), file("a/x", "low", 5), dir("b", 9, 0), file("f", "", 6)}},
		{"in a leaf alone, where one is gone", leaf(gone("b", 3)), deed{toMake, "b", "", 9}, impl.OK, []impl.Node{dir("b", 9, 0)}},
		{"in one Item", nested(leaf(), low), deed{toMake, "b", "", 9}, impl.OK, []impl.Node{dir("b", 9, 1)}},
		{"in two", nested(nested(leaf()), low), deed{toMake, "a/d/b", "", 9}, impl.OK, []impl.Node{dir("a", 3, 0), dir("a/d", 4, 0), dir("a/d/b", 9, 2)}},
		{"in three", nested(nested(nested(leaf())), low), deed{toMake, "b", "", 0}, impl.OK, []impl.Node{dir("b", 0, 3)}},
		{"in one Item, others deeper", nested(leaf(), inside(2, low)), deed{toMake, "b", "", 9}, impl.OK, []impl.Node{dir("b", 9, 1)}},
		{"where one was removed", nested(leaf(gone("a", 1)), low), deed{toMake, "a", "", 9}, impl.OK, []impl.Node{dir("a", 9, 1)}},
		{"where one is gone in more levels", nested(leaf(gone("a", 8)), low), deed{toMake, "a", "", 9}, impl.OK, []impl.Node{dir("a", 9, 1)}},
		{"where one is gone in a leaf below", nested(leaf(), leaf(gone("a", 1)), low), deed{toMake, "a", "", 9}, impl.OK, []impl.Node{dir("a", 9, 1)}},
		{"a directory is seen", nested(leaf(), low), deed{toMake, "a", "", 9}, impl.ErrThere, nil},
		{"a file is seen", nested(leaf(), low), deed{toMake, "a/x", "", 9}, impl.ErrThere, nil},
		{"gone in the leaf, and seen", nested(nested(leaf(gone("a", 1))), low), deed{toMake, "a", "", 9}, impl.ErrThere, nil},
		{"in nothing", nested(leaf(), low), deed{toMake, "b/c", "", 9}, impl.ErrNone, nil},
		{"in a file", nested(leaf(), low), deed{toMake, "f/c", "", 9}, impl.ErrFile, nil},
		{"a path above is gone in the leaf", nested(nested(leaf(gone("a", 1))), low), deed{toMake, "a/n", "", 9}, impl.OK, []impl.Node{dir("a", 3, 1), dir("a/n", 9, 2)}},
	} {
		c.run(t)
	}
}

func TestRemoveKnown(t *testing.T) {
	low := leaf(dir("a", 3, 0), dir("a/d", 4, 0), file("a/x", "low", 5), file("f", "", 6))
	for _, c := range []leafCase{
		{"of a leaf alone", low, deed{verb: toDrop, path: "a/x"}, impl.OK, []impl.Node{dir("a", 3, 0), dir("a/d", 4, 0), file("f", "", 6)}},
		{"of a leaf alone, with gone ones under it", leaf(dir("a", 1, 0), gone("a/x", 1), file("b", "", 1)), deed{verb: toDrop, path: "a"}, impl.OK, []impl.Node{file("b", "", 1)}},
		{"in one Item, of what lies below", nested(leaf(), low), deed{verb: toDrop, path: "a/x"}, impl.OK, []impl.Node{dir("a", 3, 0), gone("a/x", 1)}},
		{"in one Item, of the leaf's own", nested(leaf(file("n", "", 1)), low), deed{verb: toDrop, path: "n"}, impl.OK, []impl.Node{gone("n", 1)}},
		{"in two", nested(nested(leaf()), low), deed{verb: toDrop, path: "a/d"}, impl.OK, []impl.Node{dir("a", 3, 0), gone("a/d", 2)}},
		{"in three", inside(3, low), deed{verb: toDrop, path: "f"}, impl.OK, []impl.Node{dir("a", 3, 0), dir("a/d", 4, 0), file("a/x", "low", 5), gone("f", 3)}},
		{"a directory, with gone ones under it", nested(leaf(dir("a", 1, 1), gone("a/x", 1), dir("b", 1, 0)), low), deed{verb: toDrop, path: "a"}, impl.OK, []impl.Node{gone("a", 1), dir("b", 1, 0)}},
		{"gone in the leaf, and seen", nested(nested(leaf(gone("f", 1))), low), deed{verb: toDrop, path: "f"}, impl.OK, []impl.Node{gone("f", 2)}},
		{"a path above is gone in the leaf", nested(nested(leaf(gone("a", 1))), low), deed{verb: toDrop, path: "a/x"}, impl.OK, []impl.Node{dir("a", 3, 1), gone("a/x", 2)}},
		{"something under it", nested(leaf(), low), deed{verb: toDrop, path: "a"}, impl.ErrState, nil},
		{"something under it in the leaf alone", nested(leaf(dir("a", 1, 1), file("a/n", "", 1)), low), deed{verb: toDrop, path: "a"}, impl.ErrState, nil},
		{"nothing", nested(leaf(), low), deed{verb: toDrop, path: "b"}, impl.ErrNone, nil},
		{"nothing any more", nested(leaf(gone("f", 1)), low), deed{verb: toDrop, path: "f"}, impl.ErrNone, nil},
		{"nothing in a file", nested(leaf(), low), deed{verb: toDrop, path: "f/x"}, impl.ErrNone, nil},
	} {
		c.run(t)
	}
}

func TestTouchKnown(t *testing.T) {
	low := leaf(dir("a", 3, 5), dir("a/d", 4, 0), file("a/x", "low", 5), file("f", "", 6))
	for _, c := range []leafCase{
		{"a file of a leaf alone", low, deed{verb: toTouch, path: "a/x", time: 9}, impl.OK, []impl.Node{dir("a", 3, 5), dir("a/d", 4, 0), file("a/x", "low", 9), file("f", "", 6)}},
		{"a directory of a leaf alone", low, deed{verb: toTouch, path: "a", time: 9}, impl.OK, []impl.Node{dir("a", 9, 5), dir("a/d", 4, 0), file("a/x", "low", 5), file("f", "", 6)}},
		{"a file below", nested(leaf(), low), deed{verb: toTouch, path: "a/x", time: 9}, impl.OK, []impl.Node{dir("a", 3, 0), file("a/x", "low", 9)}},
		{"a file that the leaf has", nested(leaf(file("f", "own", 1)), low), deed{verb: toTouch, path: "f", time: 9}, impl.OK, []impl.Node{file("f", "own", 9)}},
		{"a file that the leaf has gone", nested(nested(leaf(gone("f", 1))), low), deed{verb: toTouch, path: "f", time: 9}, impl.OK, []impl.Node{file("f", "", 9)}},
		{"a directory that the leaf has not", nested(leaf(), low), deed{verb: toTouch, path: "a", time: 9}, impl.OK, []impl.Node{dir("a", 9, 0)}},
		{"a directory that the leaf has not, further down", nested(leaf(), low), deed{verb: toTouch, path: "a/d", time: 0}, impl.OK, []impl.Node{dir("a", 3, 0), dir("a/d", 0, 0)}},
		{"a directory that the leaf has", nested(leaf(dir("a", 1, 0)), low), deed{verb: toTouch, path: "a", time: 9}, impl.OK, []impl.Node{dir("a", 9, 0)}},
		{"a directory that the leaf has, with its Mark", nested(leaf(dir("a", 1, 3), file("a/o", "own", 2)), low), deed{verb: toTouch, path: "a", time: 9}, impl.OK, []impl.Node{dir("a", 9, 3), file("a/o", "own", 2)}},
		{"a directory that the leaf has gone, with its Mark", nested(nested(leaf(gone("a", 1))), low), deed{verb: toTouch, path: "a", time: 9}, impl.OK, []impl.Node{dir("a", 9, 1)}},
		{"a directory that the leaf has gone by 2", nested(nested(nested(leaf(gone("a", 2)))), low), deed{verb: toTouch, path: "a", time: 9}, impl.OK, []impl.Node{dir("a", 9, 2)}},
		{"a path above is gone in the leaf", nested(nested(leaf(gone("a", 1))), low), deed{verb: toTouch, path: "a/d", time: 9}, impl.OK, []impl.Node{dir("a", 3, 1), dir("a/d", 9, 0)}},
		{"nothing", nested(leaf(), low), deed{verb: toTouch, path: "b", time: 9}, impl.ErrNone, nil},
		{"nothing any more", nested(leaf(gone("f", 1)), low), deed{verb: toTouch, path: "f", time: 9}, impl.ErrNone, nil},
		{"nothing in a file", nested(leaf(), low), deed{verb: toTouch, path: "f/x", time: 9}, impl.ErrNone, nil},
	} {
		c.run(t)
	}
}

// A path of MaxNames names is opened from the root's child on, each with its own time.
func TestChangesAsDeepAsAPathMayBe(t *testing.T) {
	low := leaf(dir("a", 1, 0), dir("a/b", 2, 0), dir("a/b/c", 3, 0), dir("a/b/c/d", 4, 0), dir("a/b/c/d/e", 5, 0), file("a/b/c/d/e/f", "deep", 6))
	opened := []impl.Node{dir("a", 1, 0), dir("a/b", 2, 0), dir("a/b/c", 3, 0), dir("a/b/c/d", 4, 0), dir("a/b/c/d/e", 5, 0)}
	path := "a/b/c/d/e/f"
	n := nested(nested(leaf()), low)
	for _, c := range []leafCase{
		{"write", n, deed{toWrite, path, "new", 9}, impl.OK, append(opened[:5:5], file(path, "new", 9))},
		{"make", n, deed{toMake, path + "0", "", 9}, impl.OK, append(opened[:5:5], dir(path+"0", 9, 2))},
		{"remove", n, deed{verb: toDrop, path: path}, impl.OK, append(opened[:5:5], gone(path, 2))},
		{"touch", n, deed{verb: toTouch, path: path, time: 9}, impl.OK, append(opened[:5:5], file(path, "deep", 9))},
		{"touch further up", n, deed{verb: toTouch, path: "a/b/c", time: 9}, impl.OK, append(opened[:2:2], dir("a/b/c", 9, 0))},
	} {
		c.run(t)
	}
}
