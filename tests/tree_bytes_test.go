package tests

import (
	"math"
	"strings"
	"testing"

	"loop.example/g00449/impl"
)

// nodeBytes is what chapter 4 says of one node, right or not.
func nodeBytes(n impl.Node) string {
	return impl.PutText(n.Path) + impl.PutNum(n.Kind) + impl.PutText(n.Data) + impl.PutNum(n.Time) + impl.PutNum(n.Mark)
}

// rawBytes is what chapter 4 says of a tree, right or not, that is said to have so many nodes.
func rawBytes(count int64, nodes []impl.Node) string {
	text := impl.PutNum(count)
	for _, n := range nodes {
		text += nodeBytes(n)
	}
	return text
}

func TestTreeBytesKnown(t *testing.T) {
	known := []struct {
		tree impl.Tree
		want string
	}{
		{impl.Tree{}, "\x00"}, {impl.Tree{Nodes: []impl.Node{}}, "\x00"},
		{tree(dir("a", 1, 2)), "\x02\x02a\x02\x00\x02\x04"}, {tree(gone("ab", 8)), "\x02\x04ab\x00\x00\x00\x10"},
		{tree(file("a", "de", impl.MaxTime)), "\x02\x02a\x04\x04de\x80\x89\x7a\x00"},
		{tree(dir("a", 0, 0), file("a/x", "", 64)), "\x04\x02a\x02\x00\x00\x00\x06a/x\x04\x00\x80\x01\x00"},
	}
	for _, k := range known {
		if got := impl.TreeBytes(k.tree); got != k.want {
			t.Errorf("TreeBytes(%s) = %q, want %q", shown(k.tree), got, k.want)
		}
		if got := impl.TreeRead(k.want); !sameOut(got, impl.TreeOut{Tree: k.tree}) {
			t.Errorf("TreeRead(%q) = %d %s, want %s", k.want, got.Code, shown(got.Tree), shown(k.tree))
		}
	}
}

// Promise 7: a right tree comes back from its bytes.
func TestTreesComeBack(t *testing.T) {
	for _, right := range someTrees() {
		text := impl.TreeBytes(right)
		if want := rawBytes(int64(len(right.Nodes)), right.Nodes); text != want {
			t.Errorf("TreeBytes(%s) = %q, want %q", shown(right), text, want)
		}
		if got := impl.TreeRead(text); !sameOut(got, impl.TreeOut{Tree: right}) || !impl.TreeSame(got.Tree, right) {
			t.Errorf("%s does not come back: %d %s", shown(right), got.Code, shown(got.Tree))
		}
	}
}

// The longest nodes that a tree may have leave some bytes of MaxBytes over.
func TestLongestTreeHasBytes(t *testing.T) {
	if size := len(impl.TreeBytes(longTree())); size < 7000 || size > impl.MaxBytes {
		t.Errorf("TreeBytes of the longest tree has %d bytes", size)
	}
}

func TestTreeBytesRefuses(t *testing.T) {
	for _, wrong := range wrongTrees() {
		if got := impl.TreeBytes(wrong); got != "" {
			t.Errorf("TreeBytes(%.200s) = %.80q, want none", shown(wrong), got)
		}
	}
}

// refused: is it this code alone?
func refused(t *testing.T, what string, text string, code int64) {
	t.Helper()
	if got := impl.TreeRead(text); !sameOut(got, impl.TreeOut{Code: code}) {
		t.Errorf("%s: TreeRead(%.80q) = %d %.80s, want %d alone", what, text, got.Code, shown(got.Tree), code)
	}
}

func TestTreeReadRefusesWrongTrees(t *testing.T) {
	for _, wrong := range wrongTrees() {
		text := rawBytes(int64(len(wrong.Nodes)), wrong.Nodes)
		code := int64(impl.ErrSyntax)
		if len(text) > impl.MaxBytes {
			code = impl.ErrSize
		}
		refused(t, "a tree that is not right", text, code)
	}
}

func TestTreeReadRefusesPieces(t *testing.T) {
	for _, right := range someTrees()[2:13] {
		text := impl.TreeBytes(right)
		for size := range len(text) {
			refused(t, "a piece", text[:size], impl.ErrSyntax)
		}
		for _, more := range []string{"\x00", "a", text} {
			refused(t, "something behind it", text+more, impl.ErrSyntax)
		}
		refused(t, "something ahead of it", "\x00"+text, impl.ErrSyntax)
	}
}

func TestTreeReadRefusesCounts(t *testing.T) {
	nodes := flatTree(impl.MaxNodes + 1).Nodes
	for _, count := range []int64{math.MinInt64, -40, -1, 0, 1, 2, 4, 39, 40, 41, 400, math.MaxInt64} {
		refused(t, "another count", rawBytes(count, nodes[:3]), impl.ErrSyntax)
		refused(t, "a count too great, or another", rawBytes(count, nodes), impl.ErrSyntax)
	}
	for _, count := range []int64{math.MinInt64, -1, 1, 41, math.MaxInt64} {
		refused(t, "a count of nothing", impl.PutNum(count), impl.ErrSyntax)
	}
}

func TestTreeReadRefusesSyntax(t *testing.T) {
	for _, c := range []struct{ what, text string }{
		{"nothing", ""}, {"a count with a byte too many", "\x80\x00"}, {"a count that ends early", "\x80"}, {"a count of ten bytes", strings.Repeat("\xff", 9) + "\x02"},
		{"a path's length with a byte too many", "\x02\x82\x00a\x02\x00\x02\x04"}, {"a kind with a byte too many", "\x02\x02a\x82\x00\x00\x02\x04"},
		{"a data's length with a byte too many", "\x02\x02a\x02\x80\x00\x02\x04"}, {"a time with a byte too many", "\x02\x02a\x02\x00\x82\x00\x04"},
		{"a mark with a byte too many", "\x02\x02a\x02\x00\x02\x84\x00"}, {"a path's length below 0", "\x02\x01a\x02\x00\x02\x04"},
		{"a data's length below 0", "\x02\x02a\x04\x01\x02\x00"}, {"a path's length above MaxBytes", "\x02" + impl.PutNum(impl.MaxBytes+1) + "a\x02\x00\x02\x04"},
		{"a path's length beyond the end", "\x02\x7ea\x02\x00\x02\x04"},
	} {
		refused(t, c.what, c.text, impl.ErrSyntax)
	}
}

// With any byte turned to any other one it is refused, or it is the bytes of another right tree.
func TestTreeReadTakesNoOtherBytes(t *testing.T) {
	text := impl.TreeBytes(tree(dir("a", 1, 2), file("a/b", "dat", 1000), gone("c", 3)))
	for place := range text {
		for b := range 256 {
			other := text[:place] + string([]byte{byte(b)}) + text[place+1:]
			got := impl.TreeRead(other)
			if got.Code == impl.OK && (!impl.TreeRight(got.Tree) || impl.TreeBytes(got.Tree) != other) {
				t.Errorf("TreeRead(%q) = %s, whose bytes these are not", other, shown(got.Tree))
			}
			if got.Code != impl.OK && !sameOut(got, impl.TreeOut{Code: impl.ErrSyntax}) {
				t.Errorf("TreeRead(%q) = %d %s, want ErrSyntax alone", other, got.Code, shown(got.Tree))
			}
		}
	}
}

func TestTreeReadLimit(t *testing.T) {
	for _, text := range []string{"", "\x00", "\xff", impl.TreeBytes(longTree()), impl.TreeBytes(tree(dir("a", 1, 2)))} {
		most := text + strings.Repeat("\x00", impl.MaxBytes-len(text))
		refused(t, "MaxBytes bytes", most, impl.ErrSyntax)
		refused(t, "one byte more", most+"\x00", impl.ErrSize)
	}
}

func TestTreeReadIsNewMemory(t *testing.T) {
	text := strings.Clone(impl.TreeBytes(ownTree()))
	nodes := impl.TreeRead(text).Tree.Nodes
	for _, n := range nodes {
		if sharesMemory(n.Path, text) || sharesMemory(n.Data, text) {
			t.Errorf("%+v shares memory with what was handed in", n)
		}
	}
	if len(nodes) != 3 {
		t.Errorf("%d nodes came back, want 3", len(nodes))
	}
}
