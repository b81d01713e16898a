package tests

import (
	"fmt"
	"slices"
	"testing"

	"loop.example/g00449/impl"
)

// flattens holds Flatter and CanFlatter against what is to be told; none stands for that it can't.
func flattens(t *testing.T, what string, n []impl.Item, flat []impl.Item) {
	t.Helper()
	if flat == nil {
		unflattened(t, what, n, impl.ErrState)
		return
	}
	if got := impl.Flatter(n); got.Code != impl.OK || !sameNest(got.Nest, flat) || !impl.CanFlatter(n) {
		t.Fatalf("%s: Flatter = %d%s, want%s", what, got.Code, shownNest(got.Nest), shownNest(flat))
	}
}

// unflattened says that a nest is refused with that code, and nothing beside it.
func unflattened(t *testing.T, what string, n []impl.Item, code int64) {
	t.Helper()
	if got := impl.Flatter(n); got.Code != code || len(got.Nest) != 0 {
		t.Fatalf("%s: Flatter tells %d%s, want %d alone, of%.400s", what, got.Code, shownNest(got.Nest), code, shownNest(n))
	}
	if impl.CanFlatter(n) {
		t.Fatalf("%s: CanFlatter is true, of%.400s", what, shownNest(n))
	}
}

// toldApart are Items of these numbers whose leaves are all different.
func toldApart(many []int64) []impl.Item {
	n := items(many...)
	for number := range n {
		if n[number].Many == 0 {
			n[number].Tree = tree(file("x", fmt.Sprint("leaf", number), int64(number)))
		}
	}
	return n
}

// Every nest that may be.
func TestFlatterOfAllShapes(t *testing.T) {
	can, all := 0, 0
	for count := 1; count <= impl.MaxItems; count++ {
		for _, shape := range shapes(count, impl.MaxDepth, impl.MaxLayers) {
			n := toldApart(shape)
			flat := flatOf(n)
			flattens(t, "a shape", n, flat)
			if all++; flat != nil {
				can++
			}
		}
	}
	if can < 1000 || all-can < 1000 {
		t.Errorf("of %d nests %d can be made flatter", all, can)
	}
}

func TestFlatterKnown(t *testing.T) {
	a, b, c, d, e := leaf(file("a", "", 1)), leaf(gone("b", 2)), leaf(dir("c", 3, 1), file("c/c", "", 3)), leaf(), leaf(file("e", "", 5))
	for _, k := range []struct {
		what    string
		n, flat []impl.Item
	}{
		{"a single leaf", a, nil}, {"an empty one", d, nil},
		{"one layer", nested(a), nil}, {"one layer that is none of the leaves", nested(nested(a, b)), nil}, {"one layer, deep", inside(3, a), nil},
		{"leaves alone", nested(a, b), nil}, {"four leaves", nested(a, b, c, d), nil},
		{"the last one a leaf", nested(nested(a, b), c), nil}, {"the last one a leaf, behind others", nested(a, nested(b), nested(c), d), nil},
		{"the last one of one leaf", nested(a, nested(b)), nested(a, b)}, {"of two", nested(a, nested(b, c)), nested(a, b, c)}, {"of three", nested(a, nested(b, c, d)), nested(a, b, c, d)}, {"of four", nested(a, nested(b, c, d, e)), nil},
		{"behind two, of one", nested(a, b, nested(c)), nested(a, b, c)}, {"of two", nested(a, b, nested(c, d)), nested(a, b, c, d)}, {"of three", nested(a, b, nested(c, d, e)), nil},
		{"behind three, of one", nested(a, b, c, nested(d)), nested(a, b, c, d)}, {"of two", nested(a, b, c, nested(d, e)), nil},
		{"others as they are", nested(nested(a, b), nested(c)), nested(nested(a, b), c)}, {"none of them a leaf", nested(nested(a), nested(nested(b, c), nested(d))), nested(nested(a), nested(b, c), nested(d))},
		{"the last of three alone", nested(nested(a), nested(b), nested(c)), nested(nested(a), nested(b), c)},
		{"the desk", impl.DeskNest(), []impl.Item{{Many: 2}, {Many: 2}, impl.DeskNest()[2], impl.DeskNest()[3], impl.DeskNest()[5]}},
		{"as many Items as may be", nested(nested(a, b, c), nested(nested(a, b, c, d), e)), nested(nested(a, b, c), nested(a, b, c, d), e)},
		{"as deep as may be", nested(a, inside(2, b)), nested(a, nested(b))}, {"as deep as may be above", nested(inside(2, a), nested(b)), nested(inside(2, a), b)},
		{"as deep as may be, and one layer", inside(2, nested(a, b)), nil},
	} {
		flattens(t, k.what, k.n, k.flat)
	}
}

// Once is once: what can be made flatter more than once is asked for it again.
func TestFlatterMoreThanOnce(t *testing.T) {
	a, b, c, d := leaf(file("a", "", 1)), leaf(file("b", "", 2)), leaf(file("c", "", 3)), leaf(file("d", "", 4))
	for _, steps := range [][][]impl.Item{
		{nested(a, nested(b, nested(c, d))), nested(a, b, nested(c, d)), nested(a, b, c, d), nil},
		{nested(a, nested(nested(b))), nested(a, nested(b)), nested(a, b), nil},
		{nested(nested(a), nested(b, nested(c))), nested(nested(a), b, nested(c)), nested(nested(a), b, c), nil},
		{nested(a, nested(nested(b, c), nested(d))), nested(a, nested(b, c), nested(d)), nested(a, nested(b, c), d), nil},
		{nested(a, nested(b, nested(c, d, a))), nested(a, b, nested(c, d, a)), nil},
	} {
		for number, n := range steps[:len(steps)-1] {
			flattens(t, fmt.Sprint("step ", number), n, steps[number+1])
		}
	}
}

func TestFlatterRefuses(t *testing.T) {
	for _, n := range wrongNests() {
		unflattened(t, "a wrong nest", n, impl.ErrForm)
	}
	for _, n := range longLists() {
		unflattened(t, "too long a list", n, impl.ErrSize)
	}
	for count, code := range map[int]int64{impl.MaxItems + 1: impl.ErrForm, impl.MaxList: impl.ErrForm, impl.MaxList + 1: impl.ErrSize} {
		unflattened(t, "by size", append(nested(leaf(), nested(leaf())), make([]impl.Item, count-4)...), code)
		unflattened(t, "by size", make([]impl.Item, count), code)
	}
	// What would be right if it were flatter is not right yet.
	unflattened(t, "too deep", nested(leaf(), inside(3, leaf())), impl.ErrForm)
	four := nested(leaf(), leaf(), leaf(), leaf())
	unflattened(t, "too many Items", nested(nested(leaf()), four, nested(nested(leaf(), leaf()), leaf())), impl.ErrForm)
	unflattened(t, "a wrong tree", nested(leaf(), nested(leaf(file("b", "", 0), file("a", "", 0)))), impl.ErrForm)
	unflattened(t, "a tree where none may be", append([]impl.Item{{Many: 2}, {}}, append([]impl.Item{{Many: 1, Tree: tree(file("a", "", 1))}}, impl.Item{})...), impl.ErrForm)
}

// Promise 16: a nest that is made flatter shows nothing as another thing.
func TestFlatterShowsNothingAsAnotherThing(t *testing.T) {
	names := 0
	for _, n := range append(flatNests(), someNests()...) {
		seen := seenIn(n)
		for last := n; impl.CanFlatter(last); {
			flat := impl.Flatter(last).Nest
			if !impl.NestRight(flat) || len(flat) != len(last)-1 || impl.Leaves(flat) != impl.Leaves(n) || impl.NestDepth(flat) > impl.NestDepth(last) {
				t.Fatalf("of%s\nit is made%s", shownNest(last), shownNest(flat))
			}
			for _, path := range pathsIn(n) {
				want := looked(n, seen, path)
				tells(t, "flatter", flat, path, want)
				names += len(want.names)
			}
			ahead, then := impl.Sight(last), impl.Sight(flat)
			if ahead.Code == impl.OK && then.Code == impl.OK && !sameOut(ahead, then) {
				t.Fatalf("Sight = %s of%s\nthen %s", shown(ahead.Tree), shownNest(last), shown(then.Tree))
			}
			last = flat
		}
	}
	if names < 5000 {
		t.Errorf("only %d names were seen", names)
	}
}

// What a mark hides in the last layer it hides as well when it lies one Item less deep, and nothing more.
func TestFlatterKeepsMarksWhereTheyHide(t *testing.T) {
	for mark := int64(1); mark <= 8; mark++ {
		over := leaf(dir("a", 1, 0), file("a/o", "over", 1))
		low := leaf(dir("a", 3, 0), file("a/l", "low", 3))
		for what, k := range map[string]struct {
			mid []impl.Item
			at  string
			out impl.NodeOut
		}{
			"gone below a directory": {leaf(gone("a", mark)), "a/l", none}, "anew below a directory": {leaf(dir("a", 2, mark)), "a/l", none}, "gone itself": {leaf(dir("a", 2, 0), gone("a/l", mark)), "a/l", none},
			"another one gone": {leaf(dir("a", 2, 0), gone("a/o", mark)), "a/l", is(file("a/l", "low", 3))}, "gone what is above": {leaf(dir("a", 2, 0), gone("a/o", mark)), "a/o", is(file("a/o", "over", 1))},
		} {
			n := nested(over, nested(k.mid, low))
			for _, one := range [][]impl.Item{n, impl.Flatter(n).Nest} {
				if got := impl.Walk(one, k.at); got != k.out {
					t.Fatalf("%s by %d: Walk = %+v, want %+v, of%s", what, mark, got, k.out, shownNest(one))
				}
			}
		}
	}
}

// That a tree has no room for all keeps nothing from being made flatter, nor from being seen as ahead.
func TestFlatterOfCrowdedNests(t *testing.T) {
	held := 0
	for _, crowded := range crowdedNests() {
		for _, n := range [][]impl.Item{crowded, nested(leaf(file("a", "over", 1)), crowded), nested(nested(leaf(dir("a", 1, 0))), crowded)} {
			if !impl.NestRight(n) {
				continue
			}
			flat := flatOf(n)
			flattens(t, "crowded", n, flat)
			if flat == nil {
				continue
			}
			seen := seenIn(n)
			for _, path := range pathsIn(n) {
				tells(t, "crowded and flatter", flat, path, looked(n, seen, path))
			}
			held++
		}
	}
	if held < 10 {
		t.Errorf("only %d crowded nests were made flatter", held)
	}
}

func TestFlatterIsNewMemory(t *testing.T) {
	one := leaf(dir("abc", 1, 3), file("abc/def", "data", 2), gone("ghi", 1))
	n := copyOfNest(nested(one, nested(one, one)))
	given := slices.Concat(n[1].Tree.Nodes, n[3].Tree.Nodes, n[4].Tree.Nodes)
	got := impl.Flatter(n).Nest
	if !sameNest(got, nested(one, one, one)) {
		t.Fatalf("Flatter =%s", shownNest(got))
	}
	for number, item := range got {
		for _, answer := range item.Tree.Nodes {
			if sharesNodes(answer, given) {
				t.Errorf("%+v in Item %d shares memory with what was handed in", answer, number)
			}
		}
	}
	// What is put behind one list, or changed in it, is not seen in another one, nor in what was handed in.
	for number := range got {
		for place := range got[number].Tree.Nodes {
			got[number].Tree.Nodes[place].Data = "changed"
		}
		_ = append(got[number].Tree.Nodes, make([]impl.Node, 8)...)
		if number+1 < len(got) && !sameNest(got[number+1:], slices.Concat(one, one, one)[number:]) {
			t.Errorf("two lists of an answer share memory:%s", shownNest(got))
		}
	}
	if !sameNest(n, nested(one, nested(one, one))) || !sameNest(impl.Flatter(n).Nest, nested(one, one, one)) {
		t.Errorf("what was handed in has changed:%s", shownNest(n))
	}
}

func TestFlatterKeepsItsArguments(t *testing.T) {
	for _, n := range append(thrownFlat(60), impl.DeskNest(), leaf(file("a", "", 1))) {
		given := copyOfNest(n)
		for range 2 {
			flattens(t, "asked twice", given, flatOf(n))
			clear(impl.Flatter(given).Nest)
		}
		if !sameNest(given, n) {
			t.Fatalf("what was handed in has changed:%s", shownNest(given))
		}
	}
}
