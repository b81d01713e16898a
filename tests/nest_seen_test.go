package tests

import (
	"fmt"
	"slices"
	"strings"
	"testing"

	"loop.example/g00449/impl"
)

// sees holds View and Sight of a nest against what is to be told.
func sees(t *testing.T, what string, n []impl.Item, want impl.TreeOut) {
	t.Helper()
	if got := impl.View(n); !sameOut(got, want) || !impl.TreeRight(got.Tree) {
		t.Fatalf("%s: View = %d %s, want %d %s, of%.2000s", what, got.Code, shown(got.Tree), want.Code, shown(want.Tree), shownNest(n))
	}
	if got := impl.Sight(n); !sameOut(got, plainly(want)) {
		t.Fatalf("%s: Sight = %d %s, want %d %s, of%.2000s", what, got.Code, shown(got.Tree), want.Code, shown(plainly(want).Tree), shownNest(n))
	}
}

func seesNodes(t *testing.T, what string, n []impl.Item, nodes ...impl.Node) {
	t.Helper()
	sees(t, what, n, impl.TreeOut{Tree: tree(nodes...)})
}

// All that chapter 6 says of what is seen is held against what the program tells.
func TestViewAgainstTheWordsOfTheDocument(t *testing.T) {
	full, seen := 0, 0
	for _, n := range someNests() {
		want := lookedAt(n)
		sees(t, "some nest", n, want)
		if want.Code == impl.ErrFull {
			full++
		}
		seen += len(want.Tree.Nodes)
	}
	if full == 0 || seen < 1000 {
		t.Errorf("%d nests were too full, and %d nodes were seen", full, seen)
	}
}

// Promise 14: what is seen of a nest is plain; in one layer more of its own it is the same.
func TestSightIsPlainAndTheSameInOneLayerMore(t *testing.T) {
	held := 0
	for _, n := range someNests() {
		ahead := impl.Sight(n)
		if !impl.TreePlain(ahead.Tree) {
			t.Fatalf("Sight is not plain: %s, of%s", shown(ahead.Tree), shownNest(n))
		}
		for _, more := range [][]impl.Item{nested(n), inside(2, n), inside(3, n), nested(leaf(), n), nested(n, leaf()), nested(leaf(), leaf(), n, leaf()), nested(nested(leaf()), nested(n)), nested(n, n)} {
			if !impl.NestRight(more) {
				continue
			}
			if then := impl.Sight(more); !sameOut(then, ahead) {
				t.Fatalf("Sight = %d %s, then %d %s in%s", ahead.Code, shown(ahead.Tree), then.Code, shown(then.Tree), shownNest(more))
			}
			held++
		}
	}
	if held < 500 {
		t.Errorf("only %d nests in another one were looked at", held)
	}
}

func TestViewOfALeafIsItsTree(t *testing.T) {
	for _, right := range someTrees() {
		seesNodes(t, "a leaf", leafOf(right), right.Nodes...)
	}
}

// A nest of leaves alone is what chapter 5 tells of these as layers.
func TestViewOfLeavesIsOver(t *testing.T) {
	for _, l := range thrownLayers(200) {
		inner := [][]impl.Item{}
		for _, one := range l.Trees {
			inner = append(inner, leafOf(one))
		}
		sees(t, "leaves", nested(inner...), impl.Over(l))
		if out := impl.Over(l); out.Code == impl.OK {
			sees(t, "leaves, one deeper", inside(2, nested(inner...)), impl.Over(layers(impl.Over(layers(out.Tree)).Tree)))
		}
	}
}

func TestViewRefuses(t *testing.T) {
	for _, n := range wrongNests() {
		sees(t, "a wrong nest", n, impl.TreeOut{Code: impl.ErrForm})
	}
	for _, n := range longLists() {
		sees(t, "too long a list", n, impl.TreeOut{Code: impl.ErrSize})
	}
}

// A Mark counts one level less in each Item that it is in.
func TestMarksLevelByLevel(t *testing.T) {
	for mark := int64(1); mark <= 8; mark++ {
		for level := range impl.MaxDepth {
			left := mark - int64(level)
			n := inside(level, leaf(dir("a", 1, mark), file("a/x", "in", 2), gone("b", mark)))
			if left > 0 {
				seesNodes(t, "marks left", n, dir("a", 1, left), file("a/x", "in", 2), gone("b", left))
			} else {
				seesNodes(t, "no marks left", n, dir("a", 1, 0), file("a/x", "in", 2))
			}
		}
	}
}

// What a mark hides, it hides only within as many Items as it counts.
func TestMarksHideWithinTheirLevels(t *testing.T) {
	for mark := int64(1); mark <= 8; mark++ {
		for level := range impl.MaxDepth - 1 {
			hides := mark > int64(level)
			left := max(mark-int64(level)-1, 0)
			low := leaf(dir("a", 5, 0), file("a/y", "low", 6))
			hiding := nested(inside(level, leaf(gone("a", mark))), low)
			anew := nested(inside(level, leaf(dir("a", 1, mark), file("a/x", "in", 2))), low)
			what := fmt.Sprintf("mark %d, %d levels", mark, level)
			switch {
			case !hides:
				seesNodes(t, what, hiding, dir("a", 5, 0), file("a/y", "low", 6))
				seesNodes(t, what, anew, dir("a", 1, 0), file("a/x", "in", 2), file("a/y", "low", 6))
				continue
			case left > 0:
				seesNodes(t, what, hiding, gone("a", left))
			default:
				seesNodes(t, what, hiding)
			}
			seesNodes(t, what, anew, dir("a", 1, left), file("a/x", "in", 2))
		}
	}
}

// A file that lies in each layer on the way shows how far up a mark of the first leaf hides.
func TestMarksThroughThreeLevels(t *testing.T) {
	for mark := int64(1); mark <= 8; mark++ {
		a, b, c := leaf(file("x", "one", 1)), leaf(file("x", "two", 2)), leaf(file("x", "three", 3))
		n := nested(nested(nested(leaf(gone("x", mark)), a), b), c)
		what := fmt.Sprintf("gone by %d", mark)
		switch {
		case mark == 1:
			seesNodes(t, what, n, file("x", "two", 2))
		case mark == 2:
			seesNodes(t, what, n, file("x", "three", 3))
		case mark == 3:
			seesNodes(t, what, n)
		default:
			seesNodes(t, what, n, gone("x", mark-3))
		}
	}
}

// The same leaves in another nest are another thing: the marks count otherwise.
func TestWhereANestIsNestedIsSeen(t *testing.T) {
	hides := leaf(dir("a", 1, 0), gone("a/x", 1))
	mid := leaf(dir("a", 2, 0), file("a/y", "mid", 3))
	low := leaf(dir("a", 4, 0), file("a/x", "low", 5))
	y, x := file("a/y", "mid", 3), file("a/x", "low", 5)
	seesNodes(t, "all in one", nested(hides, mid, low), dir("a", 1, 0), y)
	seesNodes(t, "the first two in one", nested(nested(hides, mid), low), dir("a", 1, 0), x, y)
	seesNodes(t, "the last two in one", nested(hides, nested(mid, low)), dir("a", 1, 0), y)
	seesNodes(t, "the first in one alone", nested(nested(hides), mid, low), dir("a", 1, 0), x, y)
	seesNodes(t, "the last in one alone", nested(hides, mid, nested(low)), dir("a", 1, 0), y)
	seesNodes(t, "upside down", nested(low, nested(mid, hides)), dir("a", 4, 0), x, y)
}

// A Mark of a lower layer that has a part in a directory goes up with it.
func TestMarksFromBelow(t *testing.T) {
	top := leaf(dir("a", 1, 0), file("a/x", "in", 2))
	seesNodes(t, "a directory anew by 3 below", nested(nested(top, leaf(dir("a", 3, 3))), leaf(dir("a", 4, 0), file("a/y", "low", 5))), dir("a", 1, 1), file("a/x", "in", 2))
	seesNodes(t, "gone by 3 below", nested(nested(top, leaf(gone("a", 3))), leaf(dir("a", 4, 0), file("a/y", "low", 5))), dir("a", 1, 1), file("a/x", "in", 2))
	seesNodes(t, "gone by 1 below", nested(nested(top, leaf(gone("a", 1))), leaf(dir("a", 4, 0), file("a/y", "low", 5))), dir("a", 1, 0), file("a/x", "in", 2), file("a/y", "low", 5))
}

func TestViewOfTheDesk(t *testing.T) {
	seesNodes(t, "the desk", impl.DeskNest(), dir("a", 1, 0), file("a/x", "in", 2), file("a/y", "far", 5))
}

// goneOnes has so many gone ones of that mark, whose names begin with g.
func goneOnes(count int, mark int64) impl.Tree {
	var t impl.Tree
	for number := range count {
		t.Nodes = append(t.Nodes, gone(fmt.Sprintf("g%03d", number), mark))
	}
	return t
}

func TestViewByCountOfNodes(t *testing.T) {
	half := impl.MaxNodes / 2
	a, b := leafOf(numbered("a", half)), leafOf(numbered("b", impl.MaxNodes-half))
	one, full := leaf(file("z", "", 1)), leafOf(fullTree("f"))
	crowded := nested(leafOf(inDir("a", 0, "x", impl.MaxNodes-1)), leafOf(inDir("a", 0, "y", 1)))
	for _, c := range []struct {
		what  string
		n     []impl.Item
		count int
	}{
		{"a full leaf", full, impl.MaxNodes}, {"a full leaf deep down", inside(3, full), impl.MaxNodes}, {"one full leaf over and over", nested(full, nested(full, full), full), impl.MaxNodes},
		{"two halves", nested(a, b), impl.MaxNodes}, {"two halves, each deeper", nested(nested(a), inside(2, b)), impl.MaxNodes},
		{"two halves and one more", nested(a, b, one), -1}, {"two halves in one, one more in all", nested(nested(a, b), one), -1}, {"one more, then two halves in one", nested(one, nested(a, b)), -1},
		{"one more in the first layer", nested(nested(a, b, one), a), -1}, {"one more in the last layer", nested(a, nested(a, b, one)), -1}, {"in both", nested(nested(one, full), nested(full, one)), -1},
		{"one more in a layer deep down", nested(leaf(), inside(1, nested(one, full))), -1}, {"full of four", nested(full, leafOf(fullTree("a")), leafOf(fullTree("b")), leafOf(fullTree("c"))), -1},
		{"too many in a directory below a file", nested(leaf(file("a", "", 1)), crowded), -1}, {"too many in a directory below a gone one", nested(leaf(gone("a", 1)), crowded), -1},
		{"too many in a directory below one anew", nested(leaf(dir("a", 1, 1)), crowded), -1}, {"the same without a layer of its own", nested(leaf(dir("a", 1, 1)), crowded[1:2], crowded[2:3]), 1},
		{"gone by 1 in a layer, all full", nested(nested(leaf(gone("a", 1)), full), leaf(gone("b", 1))), impl.MaxNodes}, {"gone by 2 in a layer, all full", nested(nested(leaf(gone("a", 2)), full), leaf(gone("b", 1))), -1},
		{"gone by 2 in all, full", nested(nested(full), leaf(gone("a", 2))), -1}, {"gone by 2 in a layer alone", nested(nested(leaf(gone("a", 2))), full), impl.MaxNodes},
		{"more gone than seen, of mark 2", nested(leafOf(goneOnes(impl.MaxNodes-half+1, 2)), a), -1}, {"of mark 1", nested(leafOf(goneOnes(impl.MaxNodes-half+1, 1)), a), half},
		{"as many gone, of mark 2", nested(leafOf(goneOnes(impl.MaxNodes-half, 2)), a), impl.MaxNodes}, {"all gone by 4, deep down", inside(3, leafOf(goneOnes(impl.MaxNodes, 4))), impl.MaxNodes},
		{"all gone by 3, deep down", inside(3, leafOf(goneOnes(impl.MaxNodes, 3))), 0},
	} {
		want := lookedAt(c.n)
		if c.count < 0 && want.Code != impl.ErrFull || c.count >= 0 && (want.Code != impl.OK || len(want.Tree.Nodes) != c.count) {
			t.Errorf("%s: the second telling has %d and %d nodes, want %d", c.what, want.Code, len(want.Tree.Nodes), c.count)
		}
		sees(t, c.what, c.n, want)
	}
}

// That something is not right is told ahead of that there would be too many nodes.
func TestViewTellsFormFirst(t *testing.T) {
	full := nested(leaf(file("z", "", 1)), leafOf(fullTree("f")))
	sees(t, "too full", full, impl.TreeOut{Code: impl.ErrFull})
	for _, wrong := range [][]impl.Item{leaf(file("b", "", 0), file("a", "", 0)), items(1), items(-1), items(5), inside(3, leaf()), append(leaf(), leaf()...)} {
		sees(t, "too full, wrong behind it", nested(full, wrong), impl.TreeOut{Code: impl.ErrForm})
	}
	sees(t, "too full, Items behind it", append(slices.Clone(full), impl.Item{}), impl.TreeOut{Code: impl.ErrForm})
	long := append(slices.Clone(full), make([]impl.Item, impl.MaxList)...)
	sees(t, "too full, too long", long, impl.TreeOut{Code: impl.ErrSize})
}

func TestViewAnswersAreNewMemory(t *testing.T) {
	n := copyOfNest(nested(nested(leaf(dir("abc", 1, 3), file("abc/def", "data", 2), gone("ghi", 4))), leaf(file("jkl", "more", 3), dir("mno", 4, 0))))
	given := slices.Concat(n[2].Tree.Nodes, n[3].Tree.Nodes)
	alone := copyOfNest(n[2:3])
	answers := slices.Concat(impl.View(n).Tree.Nodes, impl.Sight(n).Tree.Nodes)
	if len(answers) != 9 {
		t.Errorf("%d answers, want 9: %+v", len(answers), answers)
	}
	for _, answer := range answers {
		if sharesNodes(answer, given) {
			t.Errorf("%+v shares memory with what was handed in", answer)
		}
	}
	for _, answer := range slices.Concat(impl.View(alone).Tree.Nodes, impl.Sight(alone).Tree.Nodes) {
		if sharesNodes(answer, alone[0].Tree.Nodes) {
			t.Errorf("of a leaf alone %+v shares memory with what was handed in", answer)
		}
	}
}

// What is handed in is not changed, nor what is answered later, whatever is done to an answer.
func TestViewKeepsItsArguments(t *testing.T) {
	for _, n := range append(thrownNests(60), leaf(dir("a", 1, 2), file("a/x", strings.Repeat("d", 60), 3), gone("b", 4))) {
		given := copyOfNest(n)
		for range 2 {
			view, sight := impl.View(given), impl.Sight(given)
			if !sameOut(view, lookedAt(n)) || !sameOut(sight, plainly(lookedAt(n))) {
				t.Fatalf("View or Sight is another one than ahead, of%s", shownNest(n))
			}
			for place := range view.Tree.Nodes {
				view.Tree.Nodes[place] = gone("changed", 1)
			}
			for place := range sight.Tree.Nodes {
				sight.Tree.Nodes[place] = gone("changed", 1)
			}
		}
		if !sameNest(given, n) {
			t.Fatalf("what was handed in has changed:%s", shownNest(given))
		}
	}
}
