package tests

import (
	"fmt"
	"math"
	"slices"

	"loop.example/g00449/impl"
)

func leaf(nodes ...impl.Node) []impl.Item {
	return []impl.Item{{Tree: tree(nodes...)}}
}

func leafOf(t impl.Tree) []impl.Item {
	return []impl.Item{{Tree: t}}
}

// nested is an Item with these in it, the uppermost first.
func nested(inner ...[]impl.Item) []impl.Item {
	return append([]impl.Item{{Many: int64(len(inner))}}, slices.Concat(inner...)...)
}

// inside is a nest in so many Items, each with that one layer alone.
func inside(count int, n []impl.Item) []impl.Item {
	for range count {
		n = nested(n)
	}
	return n
}

// items are Items of these numbers, without nodes.
func items(many ...int64) []impl.Item {
	all := []impl.Item{}
	for _, count := range many {
		all = append(all, impl.Item{Many: count})
	}
	return all
}

func shownNest(n []impl.Item) string {
	text := ""
	for number, item := range n {
		text += fmt.Sprintf("\n  %d: %d %s", number, item.Many, shown(item.Tree))
	}
	return text
}

func sameNest(a []impl.Item, b []impl.Item) bool {
	return slices.EqualFunc(a, b, func(x, y impl.Item) bool { return x.Many == y.Many && slices.Equal(x.Tree.Nodes, y.Tree.Nodes) })
}

// figures are all that is counted of a nest: nothing of one that is not right.
type figures struct {
	right                       bool
	depth, leaves, first, level int64
}

func figuresOf(n []impl.Item) figures {
	return figures{impl.NestRight(n), impl.NestDepth(n), impl.Leaves(n), impl.FirstLeaf(n), impl.LevelOf(n)}
}

// itemFits is what chapter 6 says of an Item by itself.
func itemFits(item impl.Item) bool {
	if item.Many == 0 {
		return impl.TreeRight(item.Tree)
	}
	return item.Many >= 1 && item.Many <= 4 && len(item.Tree.Nodes) == 0
}

// counted goes over a list once, and keeps of each Item that it is in how many nests are still to come.
func counted(n []impl.Item) figures {
	f := figures{right: true}
	open := []int64{1}
	for number, item := range n {
		if len(open) == 0 || !itemFits(item) {
			return figures{}
		}
		f.depth = max(f.depth, int64(len(open)))
		open[len(open)-1]--
		if item.Many == 0 && f.leaves == 0 {
			f.first, f.level = int64(number), int64(len(open)-1)
		}
		if item.Many == 0 {
			f.leaves++
		} else {
			open = append(open, item.Many)
		}
		for len(open) > 0 && open[len(open)-1] == 0 {
			open = open[:len(open)-1]
		}
	}
	if len(open) > 0 || f.depth > 4 || len(n) > 12 {
		return figures{}
	}
	return f
}

// layersIn are the nests in the first Item of a right nest: each goes on until none is to come any more.
func layersIn(n []impl.Item) [][]impl.Item {
	all := [][]impl.Item{}
	from, due := 1, int64(1)
	for to := 1; to < len(n); to++ {
		due += n[to].Many - 1
		if due == 0 {
			all, from, due = append(all, n[from:to+1]), to+1, 1
		}
	}
	return all
}

// lookedAt is the View of a right nest, by the words of chapter 6.
func lookedAt(n []impl.Item) impl.TreeOut {
	if n[0].Many == 0 {
		return impl.TreeOut{Tree: n[0].Tree}
	}
	var l impl.Layers
	for _, inner := range layersIn(n) {
		out := lookedAt(inner)
		if out.Code != impl.OK {
			return out
		}
		l.Trees = append(l.Trees, out.Tree)
	}
	return overOf(l)
}

// plainly is what everybody sees of what is told so.
func plainly(out impl.TreeOut) impl.TreeOut {
	plain := impl.TreeOut{Code: out.Code}
	for _, n := range out.Tree.Nodes {
		if n.Mark = 0; n.Kind != impl.KdGone {
			plain.Tree.Nodes = append(plain.Tree.Nodes, n)
		}
	}
	return plain
}

// shapes are the numbers of all nests of so many Items, at most so deep, each with at most so many in it.
func shapes(count int, deep int, most int) [][]int64 {
	if count < 1 || deep < 1 {
		return nil
	}
	if count == 1 {
		return [][]int64{{0}}
	}
	all := [][]int64{}
	for many := 1; many <= most; many++ {
		for _, inner := range rows(many, count-1, deep-1, most) {
			all = append(all, append([]int64{int64(many)}, inner...))
		}
	}
	return all
}

// rows are so many nests one behind the other, of so many Items in all.
func rows(many int, count int, deep int, most int) [][]int64 {
	if many == 1 {
		return shapes(count, deep, most)
	}
	all := [][]int64{}
	for first := 1; first < count; first++ {
		for _, one := range shapes(first, deep, most) {
			for _, others := range rows(many-1, count-first, deep, most) {
				all = append(all, slices.Concat(one, others))
			}
		}
	}
	return all
}

// thrownNest is a nest at most so deep; it may have too many Items.
func (d *dice) thrownNest(deep int, names []string, most int) []impl.Item {
	if deep == 1 || d.below(4) == 0 {
		return leafOf(d.thrownTree(names, most))
	}
	inner := [][]impl.Item{}
	for range 1 + d.below(impl.MaxLayers) {
		inner = append(inner, d.thrownNest(deep-1, names, most))
	}
	return nested(inner...)
}

func thrownNests(count int) [][]impl.Item {
	d := dice{state: 6}
	all := [][]impl.Item{}
	for len(all) < count {
		most := []int{3, 8, 12, impl.MaxNodes}[d.below(4)]
		names := [][]string{{"a"}, {"a", "x"}, {"a", "a0", "b"}}[d.below(3)]
		if n := d.thrownNest(impl.MaxDepth, names, most); len(n) <= impl.MaxItems {
			all = append(all, n)
		}
	}
	return all
}

// someNests are right nests, thrown and written out.
func someNests() [][]impl.Item {
	x := leaf(dir("a", 1, 0), file("a/x", "in", 2))
	g := leaf(dir("a", 3, 0), gone("a/x", 2), gone("b", 1))
	none := leaf()
	all := append(thrownNests(300),
		nested(x), nested(g, x), nested(g, nested(x)), nested(nested(g), x), nested(nested(g, none), nested(x, g)),
		inside(impl.MaxDepth-1, x), inside(impl.MaxDepth-1, none), nested(none, none, none, none), nested(g, x, g, x),
		nested(nested(x, g, x, g), nested(g, x, g, x), none), nested(nested(nested(none, x), nested(none, g)), nested(nested(x))),
		impl.DeskNest())
	for place, t := range someTrees() {
		other := someTrees()[(place*5+2)%len(someTrees())]
		all = append(all, leafOf(t), nested(leafOf(t)), nested(leafOf(t), nested(leafOf(other))), nested(nested(none, leafOf(other)), leafOf(t)))
	}
	return all
}

// wrongNests are not right, each for a reason of its own.
func wrongNests() [][]impl.Item {
	x := leaf(dir("a", 1, 0), file("a/x", "in", 2))
	full := nested(x, x, x, x)
	all := [][]impl.Item{
		nil, {}, slices.Concat(x, x), slices.Concat(nested(x, x), x), slices.Concat(nested(nested(x), x), items(0)), slices.Concat(x, items(1)),
		items(1), items(2), items(4), items(1, 1), items(2, 0), items(4, 0, 0, 0), items(2, 0, 1), items(1, 2, 0), items(2, 2, 0, 0), items(0, 1, 0), items(3, 0, 1, 0, 2, 0),
		nested(x, x, x, x, x), items(5, 0, 0, 0, 0, 0), items(5), items(1, 5, 0, 0, 0, 0, 0), items(8), items(math.MaxInt64), items(math.MaxInt64, 0), items(1<<32, 0), items(1<<32+1, 0),
		items(-1), items(-1, 0), items(-2), items(math.MinInt64), items(math.MinInt64, 0), items(1, -1), items(2, -1, 0), items(2, 0, -1), items(2, 0, -1, 0), items(-1<<32, 0), items(1, -1<<32),
		inside(impl.MaxDepth, x), inside(impl.MaxDepth+1, x), nested(x, inside(impl.MaxDepth-1, x)), nested(inside(impl.MaxDepth-1, items(0)), x), inside(impl.MaxItems-1, x), inside(impl.MaxItems, x),
		nested(full, full, nested(items(0))), nested(full, nested(x, x, x), x, x, x), nested(full, full, full),
	}
	for _, many := range []int64{1, 2, 4} {
		own := append([]impl.Item{{Many: many, Tree: tree(dir("a", 1, 0))}}, items(make([]int64, many)...)...)
		hiding := append([]impl.Item{{Many: many, Tree: tree(gone("a", 1))}}, items(make([]int64, many)...)...)
		all = append(all, own, hiding, nested(own), nested(x, hiding))
	}
	for number, wrong := range wrongTrees() {
		n := nested(nested(x, x), x, nested(x))
		n[[]int{2, 3, 4, 6}[number%4]].Tree = wrong
		above := nested(x)
		above[0].Tree = wrong
		all = append(all, leafOf(wrong), n, above)
	}
	for _, count := range []int{impl.MaxItems + 1, impl.MaxList} {
		all = append(all, items(make([]int64, count)...), slices.Repeat(x, count), append(items(4, 4, 4), items(make([]int64, count-3)...)...))
	}
	return all
}

// longLists have more Items than may be handed in at all.
func longLists() [][]impl.Item {
	all := [][]impl.Item{}
	for _, count := range []int{impl.MaxList + 1, 2 * impl.MaxList} {
		wrong := slices.Repeat(leaf(file("b", "", 0), file("a", "", 0)), count)
		all = append(all, items(make([]int64, count)...), wrong, append(items(-1, 5), wrong[2:]...), append(nested(leaf()), wrong[2:]...))
	}
	return all
}
