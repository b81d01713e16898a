package tests

import (
	"slices"
	"testing"

	"loop.example/g00449/impl"
)

func sameFigures(t *testing.T, n []impl.Item, want figures) {
	t.Helper()
	if got := figuresOf(n); got != want {
		t.Fatalf("right, depth, leaves, first leaf and level are %v, want %v, of%.400s", got, want, shownNest(n))
	}
}

func TestFiguresKnown(t *testing.T) {
	x := leaf(dir("a", 1, 0), file("a/x", "in", 2))
	four := nested(x, x, x, x)
	for _, k := range []struct {
		n    []impl.Item
		want figures
	}{
		{x, figures{true, 1, 1, 0, 0}}, {leaf(), figures{true, 1, 1, 0, 0}}, {items(0), figures{true, 1, 1, 0, 0}},
		{leaf(gone("a", 8)), figures{true, 1, 1, 0, 0}}, {leafOf(flatTree(impl.MaxNodes)), figures{true, 1, 1, 0, 0}},
		{nested(x), figures{true, 2, 1, 1, 1}}, {inside(2, x), figures{true, 3, 1, 2, 2}}, {inside(3, x), figures{true, 4, 1, 3, 3}},
		{nested(x, x), figures{true, 2, 2, 1, 1}}, {four, figures{true, 2, 4, 1, 1}}, {items(4, 0, 0, 0, 0), figures{true, 2, 4, 1, 1}},
		{nested(x, inside(2, x)), figures{true, 4, 2, 1, 1}}, {nested(inside(2, x), x), figures{true, 4, 2, 3, 3}},
		{nested(nested(x, x), nested(x)), figures{true, 3, 3, 2, 2}}, {nested(nested(x), nested(x, x)), figures{true, 3, 3, 2, 2}},
		{nested(x, four, nested(x, x, x), x), figures{true, 3, 9, 1, 1}}, {nested(four, nested(x, x, x), x, x), figures{true, 3, 9, 2, 2}},
		{[]impl.Item{{Many: 1, Tree: impl.Tree{Nodes: []impl.Node{}}}, {}}, figures{true, 2, 1, 1, 1}},
	} {
		sameFigures(t, k.n, k.want)
	}
}

// Every nest that may be, of MaxItems Items at most, and what is no nest as it has one Item less or more.
func TestFiguresOfAllShapes(t *testing.T) {
	many := 0
	for count := 1; count <= impl.MaxItems; count++ {
		for _, shape := range shapes(count, impl.MaxDepth, impl.MaxLayers) {
			n := items(shape...)
			want := counted(n)
			if !want.right {
				t.Fatalf("the second telling says it is not right: %v", shape)
			}
			sameFigures(t, n, want)
			sameFigures(t, n[:count-1], figures{})
			sameFigures(t, append(n, impl.Item{}), figures{})
			many++
		}
	}
	if many != 9341 {
		t.Errorf("%d nests were looked at, want 9341", many)
	}
}

// Nests that are too deep, or have too many in one Item, are among these.
func TestFiguresOfShapesBeyondTheLimits(t *testing.T) {
	wrong := 0
	for count := 1; count <= 9; count++ {
		for _, shape := range shapes(count, impl.MaxDepth+2, impl.MaxLayers+2) {
			want := counted(items(shape...))
			sameFigures(t, items(shape...), want)
			if !want.right {
				wrong++
			}
		}
	}
	if wrong < 100 {
		t.Errorf("only %d nests beyond the limits were looked at", wrong)
	}
}

// Lists of any numbers, most of them no nests.
func TestFiguresOfAnyNumbers(t *testing.T) {
	lists := [][]int64{{}}
	for range 5 {
		next := [][]int64{}
		for _, list := range lists {
			for many := int64(-1); many <= impl.MaxLayers+1; many++ {
				next = append(next, append(slices.Clone(list), many))
			}
		}
		for _, list := range next {
			sameFigures(t, items(list...), counted(items(list...)))
		}
		lists = next
	}
}

func TestFiguresOfThrownNests(t *testing.T) {
	for _, n := range someNests() {
		want := counted(n)
		if !want.right {
			t.Fatalf("the second telling says it is not right:%s", shownNest(n))
		}
		sameFigures(t, n, want)
	}
}

func TestFiguresOfWrongNests(t *testing.T) {
	for _, n := range append(wrongNests(), longLists()...) {
		if counted(n).right {
			t.Fatalf("the second telling says it is right:%.400s", shownNest(n))
		}
		sameFigures(t, n, figures{})
	}
}

func TestNestRightByCountOfItems(t *testing.T) {
	sameFigures(t, items(4, 3, 0, 0, 0, 3, 0, 0, 0, 0, 0), figures{true, 3, 8, 2, 2})
	sameFigures(t, items(4, 3, 0, 0, 0, 4, 0, 0, 0, 0, 0, 0), figures{true, 3, 9, 2, 2})
	sameFigures(t, items(4, 4, 0, 0, 0, 0, 4, 0, 0, 0, 0, 0, 0), figures{})
	sameFigures(t, items(1, 3, 3, 0, 0, 0, 3, 0, 0, 0, 1, 0), figures{true, 4, 7, 3, 3})
	sameFigures(t, items(1, 3, 3, 0, 0, 0, 3, 0, 0, 0, 2, 0, 0), figures{})
}

func TestNestRightByDepth(t *testing.T) {
	for count := range impl.MaxDepth + 2 {
		want := figures{}
		if count < impl.MaxDepth {
			want = figures{true, int64(count + 1), 1, int64(count), int64(count)}
		}
		sameFigures(t, inside(count, leaf(file("a", "", 1))), want)
	}
	sameFigures(t, nested(leaf(), leaf(), leaf(), inside(2, leaf())), figures{true, 4, 4, 1, 1})
	sameFigures(t, nested(leaf(), leaf(), leaf(), inside(3, leaf())), figures{})
	sameFigures(t, nested(inside(3, leaf()), leaf()), figures{})
}

// Each Item is looked at, wherever it stands.
func TestNestRightLooksAtEachItem(t *testing.T) {
	wrong := tree(file("b", "", 0), file("a", "", 0))
	for _, n := range someNests() {
		for number := range n {
			other := slices.Clone(n)
			other[number].Tree = wrong
			marked := slices.Clone(n)
			marked[number].Tree = tree(gone("a", 1))
			if n[number].Many == 0 {
				sameFigures(t, marked, counted(n))
			} else {
				sameFigures(t, marked, figures{})
			}
			sameFigures(t, other, figures{})
			for _, more := range []int64{-1, 1, -n[number].Many - 1, impl.MaxLayers + 1} {
				turned := slices.Clone(n)
				turned[number].Many += more
				sameFigures(t, turned, figures{})
			}
			sameFigures(t, slices.Delete(slices.Clone(n), number, number+1), counted(slices.Delete(slices.Clone(n), number, number+1)))
			sameFigures(t, slices.Insert(slices.Clone(n), number, impl.Item{}), figures{})
		}
	}
}

// A list of MaxList Items is looked at, and is no nest; one more is refused ahead of all else.
func TestNestsBySizeOfList(t *testing.T) {
	for _, one := range [][]impl.Item{leaf(), items(1), items(-1), leaf(file("b", "", 0), file("a", "", 0))} {
		for count, code := range map[int]int64{impl.MaxItems + 1: impl.ErrForm, impl.MaxList: impl.ErrForm, impl.MaxList + 1: impl.ErrSize, 3 * impl.MaxList: impl.ErrSize} {
			n := slices.Repeat(one, count)
			sameFigures(t, n, figures{})
			for what, got := range map[string]impl.TreeOut{"View": impl.View(n), "Sight": impl.Sight(n)} {
				if !sameOut(got, impl.TreeOut{Code: code}) {
					t.Errorf("%s of %d Items tells %d, want %d alone", what, count, got.Code, code)
				}
			}
			if impl.NestBytes(n) != "" {
				t.Errorf("NestBytes of %d Items is not empty", count)
			}
		}
	}
}

// What is handed in is not changed, and asked twice it tells the same.
func TestFiguresKeepTheirArguments(t *testing.T) {
	for _, n := range thrownNests(60) {
		given := copyOfNest(n)
		ahead := figuresOf(given)
		if figuresOf(given) != ahead || !sameNest(given, n) {
			t.Fatalf("asked twice it is another one:%s", shownNest(n))
		}
	}
}

// copyOfNest is a nest whose lists have room behind their ends, and whose texts are memory of their own.
func copyOfNest(n []impl.Item) []impl.Item {
	trees := make([]impl.Tree, 0, len(n))
	for _, item := range n {
		trees = append(trees, item.Tree)
	}
	all := make([]impl.Item, 0, len(n)+2)
	for number, t := range copyOf(impl.Layers{Trees: trees}).Trees {
		all = append(all, impl.Item{Many: n[number].Many, Tree: t})
	}
	return all
}
