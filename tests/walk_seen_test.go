package tests

import (
	"fmt"
	"slices"
	"strings"
	"testing"

	"loop.example/g00449/impl"
)

// All that chapter 7 says of one path is held against what the program tells.
func TestWalkAgainstTheWordsOfTheDocument(t *testing.T) {
	count := map[int64]int{}
	hidden := 0
	for _, n := range append(someNests(), crowdedNests()...) {
		seen := seenIn(n)
		for _, path := range pathsIn(n) {
			want := looked(n, seen, path)
			tells(t, "some nest", n, path, want)
			count[want.out.Code]++
			if want.out.Code == impl.ErrNone && want.reach > 0 {
				hidden++
			}
		}
	}
	if count[impl.OK] < 1000 || count[impl.ErrNone] < 1000 || hidden < 1000 {
		t.Errorf("%v were asked for, by their codes, and %d are hidden", count, hidden)
	}
}

// Promise 15: what one path alone tells is what all of it has there.
func TestOnePathAloneTellsWhatAllOfItHas(t *testing.T) {
	held := 0
	for _, n := range append(someNests(), thrownFlat(60)...) {
		all := impl.Sight(n)
		if all.Code != impl.OK {
			continue
		}
		for _, path := range append(pathsIn(n), pathsAround(all.Tree)...) {
			if !impl.PathRight(path) {
				continue
			}
			if got, want := impl.Walk(n, path), impl.TreeGet(all.Tree, path); got != want {
				t.Fatalf("Walk at %q = %+v, but the Sight has %+v, of%s", path, got, want, shownNest(n))
			}
			if got, want := impl.WalkNames(n, path), impl.TreeNames(all.Tree, path); !slices.Equal(got, want) {
				t.Fatalf("WalkNames at %q = %v, but the Sight has %v, of%s", path, got, want, shownNest(n))
			}
			held++
		}
	}
	if held < 5000 {
		t.Errorf("only %d paths were asked for", held)
	}
}

// Promise 15 where a tree has no room for all: each path tells what is there nevertheless.
func TestWalkHasRoomForAll(t *testing.T) {
	most := 0
	for _, n := range crowdedNests() {
		sees(t, "too full", n, impl.TreeOut{Code: impl.ErrFull})
		seen := seenIn(n)
		for _, path := range pathsIn(n) {
			tells(t, "too full", n, path, looked(n, seen, path))
		}
		most = max(most, len(impl.WalkNames(n, "")), len(impl.WalkNames(n, "a")))
	}
	if most <= 4*impl.MaxNodes {
		t.Errorf("the longest list has %d names", most)
	}
	crowded := nested(leafOf(inDir("a", 0, "x", impl.MaxNodes-1)), leafOf(inDir("a", 0, "y", impl.MaxNodes-1)))
	tells(t, "all but one hidden", nested(leaf(dir("a", 1, 1), file("a/own", "mine", 2)), crowded), "a", atPath{is(dir("a", 1, 0)), []string{"own"}, 3})
	tells(t, "below a file", nested(leaf(file("a", "over", 1)), crowded), "a", atPath{is(file("a", "over", 1)), nil, 3})
	tells(t, "below a file", nested(leaf(file("a", "over", 1)), crowded), "a/x000", atPath{none, nil, 1})
}

func TestWalkKnown(t *testing.T) {
	desk := impl.DeskNest()
	top := leaf(dir("a", 1, 0), gone("a/x", 1), dir("b", 2, 1), dir("e", 3, 0))
	low := leaf(dir("a", 4, 0), file("a/x", "low", 5), file("a/y", "far", 6), dir("b", 7, 0), file("b/x", "old", 8), file("c", "", 9), dir("d", 10, 3), dir("d/d", 11, 0))
	n := nested(top, low)
	for _, k := range []struct {
		what string
		n    []impl.Item
		path string
		want atPath
	}{
		{"the desk", desk, "", atPath{impl.NodeOut{Code: impl.ErrForm}, []string{"a"}, 0}},
		{"the desk", desk, "a", atPath{is(dir("a", 1, 0)), []string{"x", "y"}, 2}},
		{"the desk", desk, "a/x", atPath{is(file("a/x", "in", 2)), nil, 2}},
		{"the desk", desk, "a/y", atPath{is(file("a/y", "far", 5)), nil, 1}},
		{"the desk", desk, "a/z", atPath{none, nil, 0}},
		{"the desk", desk, "a/x/y", atPath{none, nil, 0}},
		{"the root", n, "", atPath{impl.NodeOut{Code: impl.ErrForm}, []string{"a", "b", "c", "d", "e"}, 0}},
		{"both have a part", n, "a", atPath{is(dir("a", 1, 0)), []string{"y"}, 2}},
		{"gone above", n, "a/x", atPath{none, nil, 2}},
		{"below alone", n, "a/y", atPath{is(file("a/y", "far", 6)), nil, 1}},
		{"anew, with no names", n, "b", atPath{is(dir("b", 2, 0)), nil, 2}},
		{"below one anew", n, "b/x", atPath{none, nil, 1}},
		{"a file of no Data", n, "c", atPath{is(file("c", "", 9)), nil, 1}},
		{"below a file", n, "c/c", atPath{none, nil, 0}},
		{"a Mark that is left", n, "d", atPath{is(dir("d", 10, 0)), []string{"d"}, 1}},
		{"a directory with no names", n, "d/d", atPath{is(dir("d/d", 11, 0)), nil, 1}},
		{"a directory with no names", n, "e", atPath{is(dir("e", 3, 0)), nil, 1}},
		{"nothing at all", n, "f", atPath{none, nil, 0}},
		{"as deep as may be", n, "a/b/c/d/e/f", atPath{none, nil, 0}},
		{"a single leaf", top, "a/x", atPath{none, nil, 1}},
		{"a single leaf", top, "a", atPath{is(dir("a", 1, 0)), nil, 1}},
		{"a single leaf", top, "b", atPath{is(dir("b", 2, 0)), nil, 1}},
		{"a single leaf", top, "", atPath{impl.NodeOut{Code: impl.ErrForm}, []string{"a", "b", "e"}, 0}},
		{"an empty leaf", leaf(), "", atPath{impl.NodeOut{Code: impl.ErrForm}, nil, 0}},
		{"an empty leaf", inside(3, leaf()), "a", atPath{none, nil, 0}},
	} {
		tells(t, k.what, k.n, k.path, k.want)
	}
}

// A name goes ahead of another one by its bytes, however often and in whatever leaf it comes.
func TestWalkNamesRise(t *testing.T) {
	a := leaf(dir("d", 1, 0), file("d/a0", "", 1), file("d/b", "", 1), file("d/z", "", 1))
	b := leaf(dir("d", 1, 0), file("d/a", "", 1), file("d/a_", "", 1), file("d/b", "", 1), dir("d/c", 1, 0), file("d/c/x", "", 1))
	want := []string{"a", "a0", "a_", "b", "c", "z"}
	for _, n := range [][]impl.Item{nested(a, b), nested(b, a), nested(a, nested(b), b, a), nested(nested(nested(b), a), b)} {
		if got := impl.WalkNames(n, "d"); !slices.Equal(got, want) {
			t.Errorf("WalkNames = %v, want %v", got, want)
		}
	}
	for range 20 {
		if got := impl.WalkNames(nested(leafOf(fullTree("f")), leafOf(fullTree("f"))), ""); len(got) != impl.MaxNodes || !slices.IsSorted(got) {
			t.Fatalf("WalkNames = %v", got)
		}
	}
}

// A way of MaxNames names is walked to its end.
func TestWalkAsLongAsAPathMayBe(t *testing.T) {
	names := slices.Repeat([]string{longName}, impl.MaxNames)
	var upper, lower impl.Tree
	for count := 1; count <= impl.MaxNames; count++ {
		path := strings.Join(names[:count], "/")
		upper.Nodes = append(upper.Nodes, dir(path, int64(count), 0))
		lower.Nodes = append(lower.Nodes, dir(path, int64(10+count), 0))
	}
	last := strings.Join(names, "/")
	upper.Nodes = upper.Nodes[:impl.MaxNames-1]
	n := nested(nested(leafOf(upper)), nested(inside(1, leafOf(lower))))
	tells(t, "the last name", n, last, atPath{is(dir(last, 10+impl.MaxNames, 0)), nil, 1})
	tells(t, "the one ahead", n, parentOf(last), atPath{is(dir(parentOf(last), impl.MaxNames-1, 0)), []string{longName}, 2})
	tells(t, "one name more", n, last+"/a", atPath{out: impl.NodeOut{Code: impl.ErrForm}})
}

// A Mark hides within as many Items as it counts, at one path as in all.
func TestWalkMarksThroughThreeLevels(t *testing.T) {
	for mark := int64(1); mark <= 8; mark++ {
		a, b, c := leaf(dir("d", 1, 0), file("d/x", "one", 1)), leaf(dir("d", 2, 0), file("d/x", "two", 2)), leaf(dir("d", 3, 0), file("d/x", "three", 3))
		want := []atPath{{is(file("d/x", "two", 2)), nil, 4}, {is(file("d/x", "three", 3)), nil, 4}, {none, nil, 4}}[min(mark, 3)-1]
		n := nested(nested(nested(leaf(dir("d", 9, 0), gone("d/x", mark)), a), b), c)
		tells(t, fmt.Sprint("gone by ", mark), n, "d/x", want)
		n = nested(nested(nested(leaf(gone("d", mark)), a), b), c)
		tells(t, fmt.Sprint("its parent gone by ", mark), n, "d/x", atPath{want.out, nil, 3})
		n = nested(nested(nested(leaf(dir("d", 9, mark)), a), b), c)
		tells(t, fmt.Sprint("its parent anew by ", mark), n, "d/x", atPath{want.out, nil, 3})
	}
}

// A layer that has no part in a directory has none in what is below it, though it has a node there.
func TestWalkBehindOneAnew(t *testing.T) {
	anew, deep := leaf(dir("a", 1, 1)), leaf(dir("a", 2, 0), dir("a/b", 3, 0), dir("a/b/c", 4, 0), file("a/b/c/d", "deep", 5))
	back := leaf(dir("a", 6, 0), dir("a/b", 7, 0))
	tells(t, "hidden by two names", nested(anew, deep), "a/b/c/d", atPath{none, nil, 1})
	tells(t, "back above", nested(back, anew, deep), "a/b", atPath{is(dir("a/b", 7, 0)), nil, 2})
	tells(t, "back above, deeper", nested(back, anew, deep), "a/b/c", atPath{none, nil, 1})
	tells(t, "the mark ends in a layer", nested(nested(back, anew), deep), "a/b", atPath{is(dir("a/b", 7, 0)), []string{"c"}, 2})
	tells(t, "the mark ends in a layer", nested(nested(back, anew), deep), "a/b/c/d", atPath{is(file("a/b/c/d", "deep", 5)), nil, 1})
	tells(t, "a file between", nested(leaf(dir("a", 1, 0)), leaf(file("a", "", 2)), deep), "a/b", atPath{none, nil, 1})
	tells(t, "a file between, deeper", nested(leaf(dir("a", 1, 0)), leaf(dir("a", 2, 0), file("a/b", "", 2)), deep), "a/b/c", atPath{none, nil, 1})
	tells(t, "a layer that skips it", nested(leaf(dir("a", 1, 0)), deep), "a/b/c", atPath{is(dir("a/b/c", 4, 0)), []string{"d"}, 1})
}

// Whatever a leaf has there counts, be it seen or not; an Item that is no leaf has nothing.
func TestReachCountsEachLeaf(t *testing.T) {
	x, g, d, other := leaf(file("x", "", 1)), leaf(gone("x", 1)), leaf(dir("x", 1, 0), file("x/x", "", 1)), leaf(file("y", "", 1))
	for _, k := range []struct {
		n    []impl.Item
		path string
		want int64
	}{
		{x, "x", 1}, {g, "x", 1}, {d, "x", 1}, {d, "x/x", 1}, {other, "x", 0}, {x, "", 0}, {leaf(), "x", 0},
		{nested(x, g, d, other), "x", 3}, {nested(x, g, d, other), "x/x", 1}, {nested(x, g, d, other), "y", 1}, {nested(x, g, d, other), "", 0}, {nested(g, g, g, g), "x", 4},
		{nested(nested(x, x, x), nested(g, g), nested(d), other), "x", 6}, {nested(nested(x, x, x, x), nested(x, x, x), x, x), "x", 9}, {inside(3, d), "x/x", 1}, {nested(x, d), "xx", 0},
	} {
		if got := impl.Reach(k.n, k.path); got != k.want {
			t.Errorf("Reach at %q = %d, want %d, of%s", k.path, got, k.want, shownNest(k.n))
		}
	}
}

func TestWalkRefuses(t *testing.T) {
	form, size := atPath{out: impl.NodeOut{Code: impl.ErrForm}}, atPath{out: impl.NodeOut{Code: impl.ErrSize}}
	for _, n := range wrongNests() {
		for _, path := range []string{"", "a", "a/x", "q", "A", "a/", strings.Repeat("a", impl.MaxBytes)} {
			tells(t, "a wrong nest", n, path, form)
		}
		tells(t, "a wrong nest, too long a path", n, tooLong, size)
	}
	for _, n := range longLists() {
		for _, path := range []string{"", "a", "q", "A", tooLong} {
			tells(t, "too long a list", n, path, size)
		}
	}
	for _, n := range [][]impl.Item{leaf(), impl.DeskNest(), inside(3, leaf(dir("a", 1, 0))), crowdedNests()[0]} {
		for _, path := range wrongPaths() {
			want := form
			if len(path) > impl.MaxBytes {
				want = size
			}
			tells(t, "a wrong path", n, path, want)
		}
	}
}

// A list of MaxList Items and a text of MaxBytes bytes are looked at, and are not right; one more is refused.
func TestWalkLimits(t *testing.T) {
	for list, listCode := range map[int]int64{impl.MaxItems + 1: impl.ErrForm, impl.MaxList: impl.ErrForm, impl.MaxList + 1: impl.ErrSize} {
		tells(t, "a list", slices.Repeat(leaf(dir("a", 1, 0)), list), "a", atPath{out: impl.NodeOut{Code: listCode}})
	}
	for text, code := range map[int]int64{impl.MaxBytes: impl.ErrForm, impl.MaxBytes + 1: impl.ErrSize} {
		for _, one := range []string{"a", "/", "A"} {
			path := "a/x/" + strings.Repeat(one, text-4)
			tells(t, "a text", impl.DeskNest(), path, atPath{out: impl.NodeOut{Code: code}})
		}
	}
	tells(t, "both at their limits", make([]impl.Item, impl.MaxList), strings.Repeat("a", impl.MaxBytes), atPath{out: impl.NodeOut{Code: impl.ErrForm}})
}

func TestWalkAnswersAreNewMemory(t *testing.T) {
	n := copyOfNest(nested(nested(leaf(dir("abc", 1, 3), file("abc/def", "data", 2))), leaf(file("jkl", "more", 3))))
	path := strings.Clone("abc/def")
	given := append(slices.Concat(n[2].Tree.Nodes, n[3].Tree.Nodes), impl.Node{Path: path})
	got := impl.Walk(n, path).Node
	if got != file("abc/def", "data", 2) || sharesNodes(got, given) {
		t.Errorf("%+v shares memory with what was handed in", got)
	}
	got = impl.Walk(n[2:3], path).Node
	if got != file("abc/def", "data", 2) || sharesNodes(got, given) {
		t.Errorf("of a leaf alone %+v shares memory with what was handed in", got)
	}
	names := append(impl.WalkNames(n, ""), impl.WalkNames(n, path[:3])...)
	if !slices.Equal(names, []string{"abc", "jkl", "def"}) {
		t.Errorf("WalkNames are %v", names)
	}
	for _, name := range names {
		if sharesNodes(impl.Node{Path: name}, given) {
			t.Errorf("%q shares memory with what was handed in", name)
		}
	}
}

// What is handed in is not changed, nor what is answered later, whatever is done to an answer.
func TestWalkKeepsItsArguments(t *testing.T) {
	for _, n := range thrownNests(40) {
		given, seen := copyOfNest(n), seenIn(n)
		for _, path := range pathsIn(n) {
			for range 2 {
				tells(t, "asked twice", given, path, looked(n, seen, path))
				clear(impl.WalkNames(given, path))
			}
		}
		if !sameNest(given, n) {
			t.Fatalf("what was handed in has changed:%s", shownNest(given))
		}
	}
}
