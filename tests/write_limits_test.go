package tests

import (
	"slices"
	"strings"
	"testing"

	"loop.example/g00449/impl"
)

// A leaf of just MaxNodes nodes is taken, one more is not; what is replaced there is no more.
func TestChangesByCountOfNodesInTheLeaf(t *testing.T) {
	low := leaf(dir("a", 3, 0), file("a/x", "low", 4), file("z", "", 5))
	for _, k := range []struct {
		d    deed
		more int
	}{
		{deed{toWrite, "new", "", 1}, 1}, {deed{toWrite, "a/x", "", 1}, 2}, {deed{toWrite, "z", "", 1}, 1}, {deed{toWrite, "g000", "", 1}, 0},
		{deed{toMake, "new", "", 1}, 1}, {deed{toMake, "a/new", "", 1}, 2}, {deed{toMake, "g000", "", 1}, 0},
		{deed{verb: toDrop, path: "a/x"}, 2}, {deed{verb: toDrop, path: "z"}, 1},
		{deed{verb: toTouch, path: "a", time: 1}, 1}, {deed{verb: toTouch, path: "a/x", time: 1}, 2}, {deed{verb: toTouch, path: "z", time: 1}, 1},
	} {
		for count := impl.MaxNodes - 3; count <= impl.MaxNodes; count++ {
			n := nested(leafOf(goneOnes(count, 1)), low)
			got := k.d.nest(n)
			if count+k.more > impl.MaxNodes {
				refusedNest(t, k.d, got, impl.ErrFull)
				continue
			}
			if got.Code != impl.OK || len(got.Nest[1].Tree.Nodes) != count+k.more {
				t.Errorf("%+v with %d nodes: %d%s", k.d, count, got.Code, shownNest(got.Nest))
			}
		}
	}
}

// In a full leaf what it has itself may be written, removed and touched.
func TestChangesOfWhatAFullLeafHas(t *testing.T) {
	full := fullTree("f")
	for _, n := range [][]impl.Item{leafOf(full), nested(leafOf(full)), nested(nested(leafOf(full), leaf()), leaf(file("f007", "low", 1)))} {
		for _, d := range []deed{{toWrite, "f007", "again", 1}, {verb: toDrop, path: "f007"}, {verb: toTouch, path: "f007", time: 1}} {
			if d.nest(n).Code != impl.OK {
				t.Errorf("%+v tells %d", d, d.nest(n).Code)
			}
			changes(t, d, n, d.nest(n), d.wantNest(n, sightOf(n)))
		}
		// What is removed from a leaf alone leaves room; where a mark stays behind it leaves none.
		removed := impl.Remove(n, "f007").Nest
		if got := impl.WriteFile(removed, "f007", "back", 1); got.Code != impl.OK {
			t.Errorf("written again: %d", got.Code)
		}
		want := int64(impl.ErrFull)
		if len(n) == 1 {
			want = impl.OK
		}
		if got := impl.WriteFile(removed, "new", "", 1); got.Code != want {
			t.Errorf("another one written: %d, want %d", got.Code, want)
		}
	}
}

// Gone ones in a leaf alone are not seen, but count there.
func TestChangesOfALeafAloneCountGoneOnes(t *testing.T) {
	for count, code := range map[int]int64{impl.MaxNodes - 1: impl.OK, impl.MaxNodes: impl.ErrFull} {
		n := leafOf(goneOnes(count, 3))
		for _, d := range []deed{{toWrite, "new", "", 1}, {toMake, "new", "", 1}} {
			if got := d.nest(n); got.Code != code {
				t.Errorf("%+v with %d nodes: %d, want %d", d, count, got.Code, code)
			}
		}
		if got := impl.WriteFile(n, "g003", "", 1); got.Code != impl.OK {
			t.Errorf("one that is gone is written: %d", got.Code)
		}
	}
}

// What is seen may have no room for one more, though the leaf has.
func TestChangesByCountOfNodesThatAreSeen(t *testing.T) {
	for count, code := range map[int]int64{impl.MaxNodes - 1: impl.OK, impl.MaxNodes: impl.ErrFull} {
		n := nested(leaf(), leafOf(numbered("f", count)))
		for _, d := range []deed{{toWrite, "new", "", 1}, {toMake, "new", "", 1}} {
			got := d.nest(n)
			if got.Code != code || code != impl.OK && len(got.Nest) != 0 {
				t.Errorf("%+v with %d seen: %d, want %d", d, count, got.Code, code)
			}
		}
		for _, d := range []deed{{toWrite, "f001", "", 1}, {verb: toDrop, path: "f001"}, {verb: toTouch, path: "f001", time: 1}} {
			if got := d.nest(n); got.Code != impl.OK {
				t.Errorf("%+v with %d seen: %d", d, count, got.Code)
			}
		}
		refusedNest(t, "no parent, of a full one", impl.WriteFile(n, "n/x", "", 1), impl.ErrNone)
		refusedNest(t, "a file above, of a full one", impl.MakeDir(n, "f001/x", 1), impl.ErrFile)
		refusedNest(t, "something there, of a full one", impl.MakeDir(n, "f001", 1), impl.ErrThere)
	}
}

// A nest whose Sight has no room is refused ahead of all that is asked of what is seen.
func TestChangesOfCrowdedNests(t *testing.T) {
	for _, n := range crowdedNests() {
		for _, path := range []string{"a", "a/own", "a/x000", "z", "f001", "f001/x", "new", "n/x"} {
			for _, d := range deedsAt(path) {
				refusedNest(t, d, d.nest(n), impl.ErrFull)
			}
			for _, to := range []string{path, "a", "z", "new", "n/x"} {
				refusedNest(t, []string{path, to}, impl.MoveFile(n, path, to), impl.ErrFull)
			}
		}
		for _, d := range unfitDeeds() {
			refusedNest(t, d, d.nest(n), impl.ErrForm)
		}
		refusedNest(t, "not from the root", impl.MoveFile(n, "", "z"), impl.ErrForm)
		refusedNest(t, "not to the root", impl.MoveFile(n, "z", ""), impl.ErrForm)
	}
}

// What a View tells of gone ones counts there, but not in what is seen: a change that both have room for may leave
// a nest whose Sight has none.
func TestChangeThatLeavesNoRoomForTheSight(t *testing.T) {
	n := nested(leaf(), leafOf(goneOnes(impl.MaxNodes-1, 2)), leaf(file("f", "low", 1)))
	if sight := impl.Sight(n); !sameOut(sight, impl.TreeOut{Tree: tree(file("f", "low", 1))}) {
		t.Fatalf("the Sight is %d %s", sight.Code, shown(sight.Tree))
	}
	written := impl.WriteFile(n, "new", "", 2)
	changes(t, "written", n, written, impl.NestOut{Nest: withLeaf(n, tree(file("new", "", 2)))})
	if sight := impl.Sight(written.Nest); sight.Code != impl.ErrFull {
		t.Errorf("the Sight is %d %s", sight.Code, shown(sight.Tree))
	}
	tells(t, "written", written.Nest, "new", atPath{is(file("new", "", 2)), nil, 1})
	refusedNest(t, "once more", impl.WriteFile(written.Nest, "new", "", 2), impl.ErrFull)
	// So the second half of a move is refused, and with it all of it.
	refusedNest(t, "moved", impl.MoveFile(n, "f", "new"), impl.ErrFull)
}

func TestChangesRefuse(t *testing.T) {
	for _, n := range wrongNests() {
		for _, path := range []string{"a", "a/x", "new", "", "A", strings.Repeat("a", impl.MaxBytes)} {
			for _, d := range deedsAt(path) {
				refusedNest(t, d, d.nest(n), impl.ErrForm)
			}
		}
		for _, d := range longDeeds() {
			refusedNest(t, "too long a text", d.nest(n), impl.ErrSize)
		}
	}
	for _, n := range longLists() {
		for _, d := range slices.Concat(deedsAt("a"), deedsAt(""), deedsAt("A"), longDeeds(), []deed{{toWrite, "a", allBytes(61), 1}, {toMake, "a", "", -1}, {toTouch, "a", "", -1}}) {
			refusedNest(t, "too long a list", d.nest(n), impl.ErrSize)
		}
	}
	for _, n := range [][]impl.Item{leaf(), impl.DeskNest(), inside(3, leaf(dir("a", 1, 0), file("a/x", "", 2)))} {
		for _, d := range unfitDeeds() {
			refusedNest(t, d, d.nest(n), impl.ErrForm)
		}
		for _, d := range longDeeds() {
			refusedNest(t, "too long a text", d.nest(n), impl.ErrSize)
		}
	}
}

// A list of MaxList Items and a text of MaxBytes bytes are looked at, and are not right; one more is refused.
func TestChangesLimits(t *testing.T) {
	for list, code := range map[int]int64{impl.MaxItems + 1: impl.ErrForm, impl.MaxList: impl.ErrForm, impl.MaxList + 1: impl.ErrSize} {
		n := slices.Repeat(leaf(dir("a", 1, 0)), list)
		for _, d := range deedsAt("a") {
			refusedNest(t, list, d.nest(n), code)
		}
		refusedNest(t, list, impl.MoveFile(n, "a", "b"), code)
	}
	for text, code := range map[int]int64{impl.MaxBytes: impl.ErrForm, impl.MaxBytes + 1: impl.ErrSize} {
		long := strings.Repeat("a", text)
		for _, d := range append(deedsAt(long), deed{toWrite, "a", long, 1}) {
			refusedNest(t, text, d.nest(impl.DeskNest()), code)
			changesTree(t, text, impl.Tree{}, d.plain(impl.Tree{}), impl.TreeOut{Code: code})
		}
		refusedNest(t, text, impl.MoveFile(impl.DeskNest(), long, "b"), code)
		refusedNest(t, text, impl.MoveFile(impl.DeskNest(), "a/x", long), code)
	}
}

// What may just be is taken.
func TestChangesTakeWhatMayBe(t *testing.T) {
	n := nested(leaf(), leaf(file("f", "low", 1)))
	for _, time := range []int64{0, impl.MaxTime} {
		for _, data := range []string{"", allBytes(60)} {
			changes(t, "written", n, impl.WriteFile(n, "f", data, time), impl.NestOut{Nest: withLeaf(n, tree(file("f", data, time)))})
		}
		changes(t, "made", n, impl.MakeDir(n, "d", time), impl.NestOut{Nest: withLeaf(n, tree(dir("d", time, 1)))})
		changes(t, "touched", n, impl.Touch(n, "f", time), impl.NestOut{Nest: withLeaf(n, tree(file("f", "low", time)))})
	}
	deep := nested(leaf(), leafOf(longTree()))
	last := longTree().Nodes[impl.MaxNodes-1]
	got := impl.WriteFile(deep, last.Path, allBytes(60), impl.MaxTime)
	if got.Code != impl.OK || impl.Walk(got.Nest, last.Path) != is(file(last.Path, allBytes(60), impl.MaxTime)) || len(got.Nest[1].Tree.Nodes) != impl.MaxNames {
		t.Errorf("as long as a path may be: %d%s", got.Code, shownNest(got.Nest))
	}
}

// changeAll is every call of the chapter that changes a nest, each with texts of its own.
func changeAll(n []impl.Item) []impl.NestOut {
	c := strings.Clone
	return []impl.NestOut{
		impl.WriteFile(n, c("abc/def"), c("fresh"), 1), impl.WriteFile(n, c("abc/sub/new"), c("fresh"), 1), impl.MakeDir(n, c("abc/sub/new"), 2), impl.MakeDir(n, c("was"), 2),
		impl.Remove(n, c("abc/def")), impl.Remove(n, c("abc/sub")), impl.Touch(n, c("abc/sub"), 3), impl.Touch(n, c("abc/def"), 3), impl.MoveFile(n, c("abc/def"), c("abc/sub/new")),
	}
}

func TestChangesAreNewMemory(t *testing.T) {
	one := leaf(dir("abc", 1, 0), file("abc/def", "data", 2), dir("abc/sub", 3, 0), gone("was", 1))
	for _, whole := range [][]impl.Item{one, nested(one, one), nested(leaf(), nested(one, one)), nested(nested(leaf(gone("abc", 1)), one), one)} {
		n := copyOfNest(whole)
		given := []impl.Node{}
		for _, item := range n {
			given = append(given, item.Tree.Nodes...)
		}
		first := changeAll(n)
		for number, got := range first {
			if got.Code != impl.OK {
				t.Errorf("change %d of%s\ntells %d", number, shownNest(n), got.Code)
			}
			for _, item := range got.Nest {
				for _, answer := range item.Tree.Nodes {
					if sharesNodes(answer, given) {
						t.Errorf("%+v shares memory with what was handed in", answer)
					}
				}
			}
		}
		// What is put behind one list, or changed in it, is not seen in another one, nor in what was handed in.
		for _, got := range first {
			for number := range got.Nest {
				kept := copyOfNest(got.Nest[number+1:])
				_ = append(got.Nest[number].Tree.Nodes, make([]impl.Node, 8)...)
				clear(got.Nest[number].Tree.Nodes)
				if !sameNest(kept, got.Nest[number+1:]) {
					t.Errorf("two lists of an answer share memory:%s", shownNest(got.Nest))
				}
			}
		}
		again := changeAll(copyOfNest(whole))
		for number, got := range changeAll(n) {
			if !sameNest(n, whole) || !sameNestOut(got, again[number]) {
				t.Errorf("what was handed in has changed:%s", shownNest(n))
			}
		}
	}
}

// What a text was handed in for is not kept as that text.
func TestChangesKeepNoText(t *testing.T) {
	path, data := strings.Clone("abc/def"), strings.Clone("fresh")
	n := nested(leaf(), leaf(dir("abc", 1, 0), file("abc/def", "low", 2)))
	for _, got := range []impl.NestOut{impl.WriteFile(n, path, data, 1), impl.MakeDir(impl.Remove(n, path).Nest, path, 1), impl.Remove(n, path), impl.Touch(n, path, 1), impl.MoveFile(n, path, path[:3]+"0"), impl.MoveFile(n, "abc/def", data)} {
		if got.Code != impl.OK {
			t.Fatalf("it tells %d", got.Code)
		}
		for _, item := range got.Nest {
			for _, answer := range item.Tree.Nodes {
				if sharesNodes(answer, []impl.Node{file(path, data, 1)}) {
					t.Errorf("%+v shares memory with what was handed in", answer)
				}
			}
		}
	}
}
