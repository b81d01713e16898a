package tests

import (
	"slices"
	"strings"
	"testing"

	"loop.example/g00449/impl"
)

// targets are where a file may be moved to: some of the paths of a nest, and itself.
func targets(n []impl.Item, from string, place int) []string {
	all := pathsToChange(n)
	return []string{from, "new", all[(place*7+1)%len(all)], all[(place*3+2)%len(all)]}
}

// movedNests are some of those that are changed.
func movedNests() [][]impl.Item {
	all := [][]impl.Item{}
	for number, n := range changedNests() {
		if number%4 == 0 {
			all = append(all, n)
		}
	}
	return all
}

// All that chapter 8 says of a file that is moved is held against what the program tells.
func TestMoveFileAgainstTheWordsOfTheDocument(t *testing.T) {
	t.Parallel()
	count := map[int64]int{}
	for _, n := range movedNests() {
		sight := sightOf(n)
		for place, from := range pathsToChange(n) {
			for _, to := range targets(n, from, place) {
				want := wantMove(n, sight, from, to)
				changes(t, []string{from, to}, n, impl.MoveFile(n, from, to), want)
				count[want.Code]++
			}
		}
	}
	for _, code := range []int64{impl.OK, impl.ErrNone, impl.ErrThere, impl.ErrFull, impl.ErrDir, impl.ErrFile} {
		if count[code] < 20 {
			t.Errorf("the code %d came %d times: %v", code, count[code], count)
		}
	}
}

// Promise 21: a file that is moved is seen where it was moved to, and no more where it was.
func TestMovedFileIsSeenWhereItWasMovedTo(t *testing.T) {
	t.Parallel()
	held := 0
	for _, n := range movedNests() {
		for place, from := range pathsToChange(n) {
			for _, to := range targets(n, from, place) {
				then := impl.MoveFile(n, from, to)
				if then.Code != impl.OK {
					continue
				}
				ahead, seen := impl.Walk(n, from).Node, impl.Sight(n).Tree
				othersKept(t, []string{from, to}, n, then.Nest)
				seenAsIf(t, []string{from, to}, n, then.Nest, impl.PlainRemove(impl.PlainWrite(seen, to, ahead.Data, ahead.Time).Tree, from))
				if got := impl.Walk(then.Nest, to); got != is(file(to, ahead.Data, ahead.Time)) || impl.Walk(then.Nest, from) != none {
					t.Fatalf("from %s to %s: %+v and %+v in%s", from, to, got, impl.Walk(then.Nest, from), shownNest(then.Nest))
				}
				held++
			}
		}
	}
	if held < 300 {
		t.Errorf("only %d files were moved", held)
	}
}

// Promise 22 for a file that is moved.
func TestFlatterAheadOfAMoveOrBehindIt(t *testing.T) {
	t.Parallel()
	held := 0
	eachFlatter(func(n []impl.Item, flat []impl.Item) {
		for place, from := range pathsToChange(n) {
			for _, to := range targets(n, from, place) {
				ahead, behind := impl.MoveFile(flat, from, to), impl.MoveFile(n, from, to)
				if ahead.Code == impl.OK && behind.Code == impl.OK {
					sameSeen(t, []string{from, to}, behind.Nest, impl.Flatter(behind.Nest).Nest, ahead.Nest)
					held++
				} else if ahead.Code != behind.Code && ahead.Code != impl.ErrFull && behind.Code != impl.ErrFull {
					t.Fatalf("from %s to %s: %d, of a flatter one %d, of%s", from, to, behind.Code, ahead.Code, shownNest(n))
				}
			}
		}
	})
	if held < 200 {
		t.Errorf("only %d files were moved", held)
	}
}

func TestMoveFileKnown(t *testing.T) {
	low := leaf(dir("a", 3, 0), dir("a/d", 4, 0), file("a/x", "low", 5), file("f", "", 6))
	for _, k := range []struct {
		what     string
		n        []impl.Item
		from, to string
		code     int64
		leaf     []impl.Node
	}{
		{"in a leaf alone", low, "a/x", "n", impl.OK, []impl.Node{dir("a", 3, 0), dir("a/d", 4, 0), file("f", "", 6), file("n", "low", 5)}},
		{"over another one in a leaf alone", low, "f", "a/x", impl.OK, []impl.Node{dir("a", 3, 0), dir("a/d", 4, 0), file("a/x", "", 6)}},
		{"from below", nested(leaf(), low), "a/x", "n", impl.OK, []impl.Node{dir("a", 3, 0), gone("a/x", 1), file("n", "low", 5)}},
		{"from below, deeper down", nested(nested(leaf()), low), "f", "a/d/n", impl.OK, []impl.Node{dir("a", 3, 0), dir("a/d", 4, 0), file("a/d/n", "", 6), gone("f", 2)}},
		{"over another one below", nested(leaf(), low), "f", "a/x", impl.OK, []impl.Node{dir("a", 3, 0), file("a/x", "", 6), gone("f", 1)}},
		{"of the leaf's own", nested(leaf(file("o", "own", 7)), low), "o", "f", impl.OK, []impl.Node{file("f", "own", 7), gone("o", 1)}},
		{"where one is gone", nested(leaf(gone("f", 1)), low), "a/x", "f", impl.OK, []impl.Node{dir("a", 3, 0), gone("a/x", 1), file("f", "low", 5)}},
		{"within a directory that is gone in the leaf", nested(nested(leaf(gone("a", 1))), low), "a/x", "a/y", impl.OK, []impl.Node{dir("a", 3, 1), gone("a/x", 2), file("a/y", "low", 5)}},
		{"nothing", nested(leaf(), low), "b", "n", impl.ErrNone, nil},
		{"nothing, to itself", nested(leaf(), low), "b", "b", impl.ErrNone, nil},
		{"nothing, to where a directory is", nested(leaf(), low), "b", "a", impl.ErrNone, nil},
		{"nothing any more", nested(leaf(gone("f", 1)), low), "f", "n", impl.ErrNone, nil},
		{"nothing in a file", nested(leaf(), low), "f/x", "n", impl.ErrNone, nil},
		{"a directory", nested(leaf(), low), "a", "n", impl.ErrDir, nil},
		{"an empty directory", nested(leaf(), low), "a/d", "n", impl.ErrDir, nil},
		{"a directory, to itself", nested(leaf(), low), "a", "a", impl.ErrDir, nil},
		{"a directory, to nowhere", nested(leaf(), low), "a", "b/n", impl.ErrDir, nil},
		{"to itself", nested(leaf(), low), "a/x", "a/x", impl.ErrThere, nil},
		{"to itself, in a leaf alone", low, "f", "f", impl.ErrThere, nil},
		{"where a directory is seen", nested(leaf(), low), "a/x", "a/d", impl.ErrDir, nil},
		{"where its own directory is seen", nested(leaf(), low), "a/x", "a", impl.ErrDir, nil},
		{"to nowhere", nested(leaf(), low), "a/x", "b/n", impl.ErrNone, nil},
		{"into a file", nested(leaf(), low), "a/x", "f/n", impl.ErrFile, nil},
		{"into itself", nested(leaf(), low), "a/x", "a/x/n", impl.ErrFile, nil},
	} {
		want := impl.NestOut{Code: k.code}
		if k.code == impl.OK {
			want.Nest = withLeaf(k.n, tree(k.leaf...))
		}
		changes(t, k.what, k.n, impl.MoveFile(k.n, k.from, k.to), want)
	}
}

// The file stands at both paths for a while: there must be room for that, in what is seen and in the leaf.
func TestMoveFileByCountOfNodes(t *testing.T) {
	for count, code := range map[int]int64{impl.MaxNodes - 1: impl.OK, impl.MaxNodes: impl.ErrFull} {
		seen := nested(leaf(), leafOf(numbered("f", count)))
		if got := impl.MoveFile(seen, "f001", "new"); got.Code != code || code != impl.OK && len(got.Nest) != 0 {
			t.Errorf("of %d that are seen: %d, want %d", count, got.Code, code)
		}
		if got := impl.MoveFile(leafOf(numbered("f", count)), "f001", "new"); got.Code != code {
			t.Errorf("of %d in a leaf alone: %d, want %d", count, got.Code, code)
		}
		if got := impl.MoveFile(seen, "f001", "f002"); got.Code != impl.OK {
			t.Errorf("over another one, of %d: %d", count, got.Code)
		}
	}
	// The write takes the last place in the leaf, so that there is none for the mark.
	for count, code := range map[int]int64{impl.MaxNodes - 2: impl.OK, impl.MaxNodes - 1: impl.ErrFull, impl.MaxNodes: impl.ErrFull} {
		n := nested(leafOf(goneOnes(count, 1)), leaf(file("f", "low", 1)))
		if got := impl.MoveFile(n, "f", "new"); got.Code != code || code != impl.OK && len(got.Nest) != 0 {
			t.Errorf("with %d nodes in the leaf: %d, want %d", count, got.Code, code)
		}
	}
	full := nested(leafOf(goneOnes(impl.MaxNodes-1, 1)), leaf(file("f", "low", 1)))
	if got := impl.MoveFile(full, "f", "g003"); got.Code != impl.OK || len(got.Nest[1].Tree.Nodes) != impl.MaxNodes {
		t.Errorf("where one is gone in the leaf: %d%s", got.Code, shownNest(got.Nest))
	}
}

func TestMoveFileRefuses(t *testing.T) {
	desk := impl.DeskNest()
	for _, path := range append(wrongPaths(), "") {
		want := int64(impl.ErrForm)
		if len(path) > impl.MaxBytes {
			want = impl.ErrSize
		}
		for _, other := range []string{"a/x", "a", "b", "", "A", path} {
			refusedNest(t, "a wrong path", impl.MoveFile(desk, path, other), want)
			refusedNest(t, "a wrong path", impl.MoveFile(desk, other, path), want)
		}
		refusedNest(t, "one too long", impl.MoveFile(desk, path, tooLong), impl.ErrSize)
		refusedNest(t, "one too long", impl.MoveFile(desk, tooLong, path), impl.ErrSize)
	}
	for _, n := range wrongNests() {
		for _, pair := range [][2]string{{"a", "b"}, {"a/x", "a/x"}, {"", "a"}, {"a", ""}, {"A", "a"}} {
			refusedNest(t, "a wrong nest", impl.MoveFile(n, pair[0], pair[1]), impl.ErrForm)
		}
		refusedNest(t, "one too long", impl.MoveFile(n, tooLong, "a"), impl.ErrSize)
		refusedNest(t, "one too long", impl.MoveFile(n, "a", tooLong), impl.ErrSize)
	}
	for _, n := range longLists() {
		for _, path := range []string{"", "a", "A", tooLong, strings.Repeat("a", impl.MaxBytes)} {
			refusedNest(t, "too long a list", impl.MoveFile(n, path, "b"), impl.ErrSize)
			refusedNest(t, "too long a list", impl.MoveFile(n, "b", path), impl.ErrSize)
		}
	}
}

// Moved there and back again, what is seen is as ahead.
func TestMovedThereAndBack(t *testing.T) {
	n := nested(nested(leaf(), leaf(dir("a", 1, 0), file("a/x", "in", 2))), leaf(dir("a", 3, 0), file("a/y", "far", 5)))
	ahead := impl.Sight(n)
	for _, path := range []string{"a/x", "a/y"} {
		then := impl.MoveFile(n, path, "z")
		back := impl.MoveFile(then.Nest, "z", path)
		if then.Code != impl.OK || back.Code != impl.OK || !sameOut(impl.Sight(back.Nest), ahead) || !slices.Contains(impl.WalkNames(then.Nest, ""), "z") {
			t.Errorf("%s: %d, %d and %s", path, then.Code, back.Code, shown(impl.Sight(back.Nest).Tree))
		}
	}
}
