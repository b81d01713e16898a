package tests

import (
	"slices"
	"testing"

	"loop.example/g00449/impl"
)

// askedOf is what everybody sees of a nest at these paths, asked one by one: that has room for all.
func askedOf(n []impl.Item, paths []string) impl.Tree {
	var seen impl.Tree
	for _, path := range paths {
		if out := impl.Walk(n, path); out.Code == impl.OK {
			seen.Nodes = append(seen.Nodes, out.Node)
		}
	}
	seen.Nodes = rising(seen.Nodes)
	return seen
}

// othersKept says that no Item is another one than ahead but the first leaf.
func othersKept(t *testing.T, what any, n []impl.Item, then []impl.Item) {
	t.Helper()
	if len(then) != len(n) || !impl.NestRight(then) {
		t.Fatalf("%+v makes of%s\nwhat is not right, or not of that shape:%s", what, shownNest(n), shownNest(then))
	}
	first := impl.FirstLeaf(n)
	if !sameNest(withLeaf(then, n[first].Tree), n) {
		t.Fatalf("%+v changes more than the first leaf of%s\nthen%s", what, shownNest(n), shownNest(then))
	}
}

// seenNow is what everybody sees: the Sight, or, where a View has no room for all, each of these paths for itself.
func seenNow(n []impl.Item, paths []string) impl.Tree {
	if sight := impl.Sight(n); sight.Code == impl.OK {
		return sight.Tree
	}
	return askedOf(n, paths)
}

// seenAsIf says that what is seen behind a change is what is seen ahead with that change in it.
func seenAsIf(t *testing.T, what any, n []impl.Item, then []impl.Item, want impl.TreeOut) {
	t.Helper()
	if seen := seenNow(then, pathsIn(then)); want.Code != impl.OK || !slices.Equal(seen.Nodes, want.Tree.Nodes) {
		t.Fatalf("%+v: seen is %s\nwant %d %s\nof%s\nthen%s", what, shown(seen), want.Code, shown(want.Tree), shownNest(n), shownNest(then))
	}
}

// heldFor does one thing at each path of many nests, and lets what came of it be looked at.
func heldFor(t *testing.T, verb string, look func(n []impl.Item, d deed, then []impl.Item)) {
	t.Helper()
	t.Parallel()
	held := 0
	for _, n := range changedNests() {
		for _, path := range pathsToChange(n) {
			d := deed{verb, path, "new", 501}
			if then := d.nest(n); then.Code == impl.OK {
				look(n, d, then.Nest)
				held++
			}
		}
	}
	if held < 1500 {
		t.Errorf("only %d changes were looked at", held)
	}
}

// Promise 17: a file that is written is seen as if it had been written to what is seen; no leaf is changed but
// the first one.
func TestFileIsSeenAsIfWrittenToWhatIsSeen(t *testing.T) {
	heldFor(t, toWrite, func(n []impl.Item, d deed, then []impl.Item) {
		othersKept(t, d, n, then)
		seenAsIf(t, d, n, then, impl.PlainWrite(impl.Sight(n).Tree, d.path, d.data, d.time))
		if got := impl.Walk(then, d.path); got != is(file(d.path, "new", 501)) {
			t.Fatalf("%+v: it is %+v in%s", d, got, shownNest(then))
		}
	})
}

// Promise 18: a directory that is made is empty, whatever lies below.
func TestDirectoryThatIsMadeIsEmpty(t *testing.T) {
	covered := 0
	heldFor(t, toMake, func(n []impl.Item, d deed, then []impl.Item) {
		othersKept(t, d, n, then)
		seenAsIf(t, d, n, then, impl.PlainDir(impl.Sight(n).Tree, d.path, d.time))
		if got, names := impl.Walk(then, d.path), impl.WalkNames(then, d.path); got != is(dir(d.path, 501, 0)) || len(names) != 0 {
			t.Fatalf("%+v: it is %+v with %v in%s", d, got, names, shownNest(then))
		}
		if impl.Reach(n, d.path) > 0 {
			covered++
		}
	})
	if covered < 200 {
		t.Errorf("only %d directories were made where a leaf has something", covered)
	}
}

// Promise 19: what is removed is seen no more, whatever lies below.
func TestWhatIsRemovedIsSeenNoMore(t *testing.T) {
	covered := 0
	heldFor(t, toDrop, func(n []impl.Item, d deed, then []impl.Item) {
		othersKept(t, d, n, then)
		seenAsIf(t, d, n, then, impl.PlainRemove(impl.Sight(n).Tree, d.path))
		base := impl.PathBase(d.path)
		if got := impl.Walk(then, d.path); got != none || slices.Contains(impl.WalkNames(then, impl.PathParent(d.path)), base) {
			t.Fatalf("%+v: it is %+v in%s", d, got, shownNest(then))
		}
		if impl.Reach(n, d.path) > 1 {
			covered++
		}
	})
	if covered < 200 {
		t.Errorf("only %d were removed where more than one leaf has something", covered)
	}
}

// Promise 20: what has another time is seen as if it had that in what is seen.
func TestAnotherTimeIsSeenAsInWhatIsSeen(t *testing.T) {
	kinds := map[int64]int{}
	heldFor(t, toTouch, func(n []impl.Item, d deed, then []impl.Item) {
		othersKept(t, d, n, then)
		seenAsIf(t, d, n, then, impl.PlainTouch(impl.Sight(n).Tree, d.path, d.time))
		want := impl.Walk(n, d.path)
		want.Node.Time = d.time
		if got := impl.Walk(then, d.path); got != want || !slices.Equal(impl.WalkNames(then, d.path), impl.WalkNames(n, d.path)) {
			t.Fatalf("%+v: it is %+v, want %+v, in%s", d, got, want, shownNest(then))
		}
		kinds[want.Node.Kind]++
	})
	if kinds[impl.KdDir] < 500 || kinds[impl.KdFile] < 500 {
		t.Errorf("by kinds %v were touched", kinds)
	}
}

// Promises 18 and 19, over and over at one path: what lies below never comes back.
func TestRemovedAndMadeOverAndOver(t *testing.T) {
	low := leaf(dir("a", 3, 0), file("a/x", "low", 4), dir("b", 5, 0))
	mid := leaf(dir("a", 6, 0), file("a/y", "mid", 7))
	for _, n := range [][]impl.Item{nested(leaf(), mid, low), nested(nested(leaf(), mid), low), nested(nested(nested(leaf()), mid), low), nested(leaf(), nested(mid, low)), inside(3, low)} {
		for _, path := range []string{"a/x", "a/y"} {
			if impl.Walk(n, path).Code == impl.OK {
				n = impl.Remove(n, path).Nest
			}
		}
		for round := range int64(4) {
			n = impl.Remove(n, "a").Nest
			tells(t, "removed", n, "a", looked(n, tree(dir("b", 5, 0)), "a"))
			n = impl.MakeDir(n, "a", 100+round).Nest
			tells(t, "made", n, "a", looked(n, tree(dir("a", 100+round, 0), dir("b", 5, 0)), "a"))
			if sight := impl.Sight(n); !sameOut(sight, impl.TreeOut{Tree: tree(dir("a", 100+round, 0), dir("b", 5, 0))}) {
				t.Fatalf("round %d: the Sight is %d %s", round, sight.Code, shown(sight.Tree))
			}
		}
		n = impl.WriteFile(n, "a/x", "mine", 9).Nest
		seenAsIf(t, "in the end", n, n, impl.TreeOut{Tree: tree(dir("a", 103, 0), file("a/x", "mine", 9), dir("b", 5, 0))})
	}
}

// Promise 22: whether a nest is made flatter ahead of a change, or behind it, or not at all, the same is seen then.
func TestFlatterAheadOfAChangeOrBehindIt(t *testing.T) {
	t.Parallel()
	held := 0
	eachFlatter(func(n []impl.Item, flat []impl.Item) {
		for _, path := range pathsToChange(n) {
			for _, d := range deedsAt(path) {
				ahead, behind := d.nest(flat), d.nest(n)
				if ahead.Code != behind.Code {
					t.Fatalf("%+v tells %d, of a flatter one %d, of%s", d, behind.Code, ahead.Code, shownNest(n))
				}
				if ahead.Code == impl.OK {
					sameSeen(t, d, behind.Nest, impl.Flatter(behind.Nest).Nest, ahead.Nest)
					held++
				}
			}
		}
	})
	if held < 1500 {
		t.Errorf("only %d changes were looked at", held)
	}
}

// flatterNests are some of those that can be made flatter.
func flatterNests() [][]impl.Item {
	all := thrownFlat(80)
	for number, n := range flatNests() {
		if number%25 == 0 {
			all = append(all, n)
		}
	}
	return all
}

// eachFlatter lets nests be looked at beside the same ones made flatter. Where just one of both has room for all it
// is left out: a KdGone may be told of one Item less deep, and counts then.
func eachFlatter(look func(n []impl.Item, flat []impl.Item)) {
	for _, n := range append(flatterNests(), impl.DeskNest()) {
		flat := impl.Flatter(n).Nest
		if impl.Sight(n).Code == impl.Sight(flat).Code {
			look(n, flat)
		}
	}
}

// sameSeen says that nests show the same at each path that one of them has.
func sameSeen(t *testing.T, what any, n []impl.Item, others ...[]impl.Item) {
	t.Helper()
	paths := pathsIn(slices.Concat(append(others, n)...))
	want := seenNow(n, paths)
	for _, other := range others {
		if seen := seenNow(other, paths); !impl.NestRight(other) || !slices.Equal(seen.Nodes, want.Nodes) {
			t.Fatalf("%+v: seen is %s\nwant %s\nof%s\nand%s", what, shown(seen), shown(want), shownNest(n), shownNest(other))
		}
	}
}

// Promise 22 over many changes, one behind the other, with a nest made flatter in their midst: what is seen is what
// one plain tree has that is changed alike.
func TestManyChangesWithFlatterAmongThem(t *testing.T) {
	d := dice{state: 9}
	steps, flats := 0, 0
	for _, n := range append(thrownFlat(60), impl.DeskNest(), nested(leaf(), nested(leaf(), nested(leafOf(someTrees()[12]))))) {
		kept, plain := n, impl.Sight(n)
		for range 25 {
			if d.below(6) == 0 && impl.CanFlatter(n) {
				n = impl.Flatter(n).Nest
				flats++
			}
			path := join([]string{"", "a", "a/x", "b", "a0"}[d.below(5)], []string{"a", "x", "b", "a0"}[d.below(4)])
			do := deedsAt(path)[d.below(4)]
			then, always, want := do.nest(n), do.nest(kept), do.plain(plain.Tree)
			if impl.Sight(n).Code != impl.OK || impl.Sight(kept).Code != impl.OK || then.Code == impl.ErrFull || always.Code == impl.ErrFull {
				break
			}
			if then.Code != want.Code || always.Code != want.Code {
				t.Fatalf("%+v tells %d, %d not made flatter, and %d of a plain tree, of%s", do, then.Code, always.Code, want.Code, shownNest(n))
			}
			if want.Code == impl.OK {
				n, kept, plain = then.Nest, always.Nest, want
				seenAsIf(t, do, kept, n, plain)
				seenAsIf(t, do, kept, kept, plain)
				steps++
			}
		}
	}
	if steps < 300 || flats < 50 {
		t.Errorf("only %d changes, and %d made flatter", steps, flats)
	}
}
