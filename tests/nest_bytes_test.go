package tests

import (
	"math"
	"strings"
	"testing"

	"loop.example/g00449/impl"
)

// itemBytes is what chapter 6 says of one Item, right or not.
func itemBytes(item impl.Item) string {
	return impl.PutNum(item.Many) + impl.PutText(rawBytes(int64(len(item.Tree.Nodes)), item.Tree.Nodes))
}

// rawNest is what chapter 6 says of a nest, right or not, that is said to have so many Items.
func rawNest(count int64, n []impl.Item) string {
	text := impl.PutNum(count)
	for _, item := range n {
		text += itemBytes(item)
	}
	return text
}

// readsAs: is what is read from a text this, all of it?
func readsAs(t *testing.T, what string, text string, want impl.NestOut) {
	t.Helper()
	if got := impl.NestRead(text); got.Code != want.Code || !sameNest(got.Nest, want.Nest) {
		t.Fatalf("%s: NestRead(%.80q) = %d%.500s\nwant %d%.500s", what, text, got.Code, shownNest(got.Nest), want.Code, shownNest(want.Nest))
	}
}

func unread(t *testing.T, what string, text string, code int64) {
	t.Helper()
	readsAs(t, what, text, impl.NestOut{Code: code})
}

func TestNestBytesKnown(t *testing.T) {
	for _, k := range []struct {
		n    []impl.Item
		want string
	}{
		{leaf(), "\x02\x00\x02\x00"}, {nested(leaf()), "\x04\x02\x02\x00\x00\x02\x00"}, {[]impl.Item{{Tree: impl.Tree{Nodes: []impl.Node{}}}}, "\x02\x00\x02\x00"},
		{leaf(dir("a", 1, 2)), "\x02\x00\x0e\x02\x02a\x02\x00\x02\x04"}, {leaf(gone("ab", 8)), "\x02\x00\x10\x02\x04ab\x00\x00\x00\x10"},
		{nested(leaf(), leaf(dir("a", 1, 2))), "\x06\x04\x02\x00\x00\x02\x00\x00\x0e\x02\x02a\x02\x00\x02\x04"},
		{nested(leaf(), leaf(), leaf(), leaf()), "\x0a\x08\x02\x00\x00\x02\x00\x00\x02\x00\x00\x02\x00\x00\x02\x00"},
		{nested(nested(leaf()), leaf()), "\x08\x04\x02\x00\x02\x02\x00\x00\x02\x00\x00\x02\x00"},
	} {
		if got := impl.NestBytes(k.n); got != k.want {
			t.Errorf("NestBytes = %q, want %q, of%s", got, k.want, shownNest(k.n))
		}
		readsAs(t, "known", k.want, impl.NestOut{Nest: k.n})
	}
}

// Promise 13: a right nest comes back from its bytes.
func TestNestsComeBack(t *testing.T) {
	back := 0
	for _, n := range someNests() {
		text, want := impl.NestBytes(n), rawNest(int64(len(n)), n)
		if len(want) > impl.MaxBytes {
			want = ""
		}
		if text != want {
			t.Fatalf("NestBytes = %q, want %q, of%s", text, want, shownNest(n))
		}
		if text != "" {
			readsAs(t, "a right nest", text, impl.NestOut{Nest: n})
			back++
		}
	}
	if back < 300 {
		t.Errorf("only %d nests came back", back)
	}
}

func TestShapesComeBack(t *testing.T) {
	for count := 1; count <= impl.MaxItems; count++ {
		for number, shape := range shapes(count, impl.MaxDepth, impl.MaxLayers) {
			if number%7 == 0 {
				readsAs(t, "a shape", impl.NestBytes(items(shape...)), impl.NestOut{Nest: items(shape...)})
			}
		}
	}
}

func TestNestBytesRefuses(t *testing.T) {
	for _, n := range append(wrongNests(), longLists()...) {
		if got := impl.NestBytes(n); got != "" {
			t.Errorf("NestBytes = %.80q, want none, of%.500s", got, shownNest(n))
		}
	}
}

// sized is a nest of four leaves whose bytes are so many: its files are filled one by one.
func sized(size int) []impl.Item {
	n := nested(leafOf(numbered("a", 30)), leafOf(numbered("b", 30)), leafOf(numbered("c", 30)), leafOf(numbered("d", 30)))
	short := size - len(rawNest(int64(len(n)), n))
	for number := range n {
		for place := range n[number].Tree.Nodes {
			old := &n[number].Tree.Nodes[place]
			more := min(short, 60-len(old.Data))
			old.Data += strings.Repeat("d", more)
			short -= more
		}
	}
	return n
}

func TestNestBytesLimit(t *testing.T) {
	for _, size := range []int{4000, impl.MaxBytes - 1, impl.MaxBytes, impl.MaxBytes + 1, impl.MaxBytes + 200} {
		n := sized(size)
		text := rawNest(int64(len(n)), n)
		if len(text) != size || !impl.NestRight(n) {
			t.Fatalf("the nest has %d bytes, want %d, and is right: %v", len(text), size, impl.NestRight(n))
		}
		if size > impl.MaxBytes {
			unread(t, "too many bytes", text, impl.ErrSize)
			text = ""
		} else {
			readsAs(t, "bytes that fit in", text, impl.NestOut{Nest: n})
		}
		if got := impl.NestBytes(n); got != text {
			t.Errorf("NestBytes of a nest of %d bytes has %d, want %d", size, len(got), len(text))
		}
	}
	if got := impl.NestBytes(nested(leafOf(longTree()), leafOf(longTree()))); got != "" {
		t.Errorf("NestBytes of two of the longest trees has %d bytes, want none", len(got))
	}
	readsAs(t, "the longest tree", impl.NestBytes(leafOf(longTree())), impl.NestOut{Nest: leafOf(longTree())})
}

func TestNestReadRefusesWrongNests(t *testing.T) {
	for _, n := range append(wrongNests(), longLists()...) {
		code := int64(impl.ErrSyntax)
		text := rawNest(int64(len(n)), n)
		if len(text) > impl.MaxBytes {
			code = impl.ErrSize
		}
		unread(t, "a nest that is not right", text, code)
	}
}

func TestNestReadRefusesPieces(t *testing.T) {
	for _, n := range [][]impl.Item{leaf(), nested(leaf(), leaf()), leaf(dir("a", 1, 2)), nested(leaf(dir("a", 1, 2), file("a/x", "in", 300)), nested(leaf(gone("b", 3)))), impl.DeskNest()} {
		text := impl.NestBytes(n)
		readsAs(t, "all of it", text, impl.NestOut{Nest: n})
		for size := range len(text) {
			unread(t, "a piece", text[:size], impl.ErrSyntax)
		}
		for _, more := range []string{"\x00", "a", "\x00\x02\x00", text} {
			unread(t, "something behind it", text+more, impl.ErrSyntax)
		}
		unread(t, "something ahead of it", "\x00"+text, impl.ErrSyntax)
	}
}

func TestNestReadRefusesCounts(t *testing.T) {
	n := nested(leaf(file("a", "", 1)), leaf())
	for _, count := range []int64{math.MinInt64, -3, -1, 0, 1, 2, 4, 12, 13, 400, 401, 1 << 32, 1<<32 + 3, math.MaxInt64} {
		unread(t, "another count", rawNest(count, n), impl.ErrSyntax)
		unread(t, "a count of nothing", impl.PutNum(count), impl.ErrSyntax)
	}
	unread(t, "13 Items", rawNest(13, items(4, 4, 0, 0, 0, 0, 4, 0, 0, 0, 0, 0, 0)), impl.ErrSyntax)
	unread(t, "13 Items, said to be 12", rawNest(12, items(4, 4, 0, 0, 0, 0, 4, 0, 0, 0, 0, 0, 0)), impl.ErrSyntax)
	most := items(4, 3, 0, 0, 0, 4, 0, 0, 0, 0, 0, 0)
	readsAs(t, "12 Items", rawNest(12, most), impl.NestOut{Nest: most})
}

// A tree stands there as a text of its own, which is all of a right tree's bytes.
func TestNestReadRefusesTrees(t *testing.T) {
	right := impl.TreeBytes(tree(dir("a", 1, 2), file("a/x", "in", 3)))
	readsAs(t, "a right tree", "\x02\x00"+impl.PutText(right), impl.NestOut{Nest: leaf(dir("a", 1, 2), file("a/x", "in", 3))})
	wrong := []string{"", right + "\x00", right + right, right[1:], "\x00\x00", "\x80\x00", "\x01", "\x02", "x", strings.Repeat("\x00", 2000)}
	for size := range len(right) {
		wrong = append(wrong, right[:size])
	}
	for _, bad := range wrongTrees() {
		wrong = append(wrong, rawBytes(int64(len(bad.Nodes)), bad.Nodes))
	}
	for _, text := range wrong {
		for _, whole := range []string{"\x02\x00" + impl.PutText(text), "\x04\x02" + impl.PutText(text) + "\x00\x02\x00", "\x06\x04\x02\x00\x00" + impl.PutText(text) + "\x00\x02\x00", "\x06\x04\x02\x00\x00\x02\x00\x00" + impl.PutText(text)} {
			code := int64(impl.ErrSyntax)
			if len(whole) > impl.MaxBytes {
				code = impl.ErrSize
			}
			unread(t, "no right tree", whole, code)
		}
	}
	unread(t, "nodes in an Item that has others in it", "\x04\x02"+impl.PutText(right)+"\x00\x02\x00", impl.ErrSyntax)
}

func TestNestReadRefusesSyntax(t *testing.T) {
	for _, c := range []struct{ what, text string }{
		{"nothing", ""}, {"no Items", "\x00"}, {"one letter", "x"}, {"a count with a byte too many", "\x82\x00\x00\x02\x00"}, {"a count that ends early", "\x80"}, {"a count of ten bytes", strings.Repeat("\xff", 9) + "\x02"},
		{"a number with a byte too many", "\x02\x80\x00\x02\x00"}, {"a length with a byte too many", "\x02\x00\x82\x00\x00"}, {"a length below 0", "\x02\x00\x01\x00"}, {"a length beyond the end", "\x02\x00\x04\x00"},
		{"a length above MaxBytes", "\x02\x00" + impl.PutNum(impl.MaxBytes+1) + "\x00"}, {"the greatest length", "\x02\x00" + impl.PutNum(math.MaxInt64) + "\x00"}, {"no tree", "\x02\x00"},
		{"a tree without its length", "\x02\x00\x00"}, {"a number of one that is below 0", "\x02\x01\x02\x00"}, {"five in one", "\x0c\x0a\x02\x00" + strings.Repeat("\x00\x02\x00", 5)}, {"too few behind it", "\x04\x04\x02\x00\x00\x02\x00"},
		{"one behind it", "\x04\x00\x02\x00\x00\x02\x00"},
	} {
		unread(t, c.what, c.text, impl.ErrSyntax)
	}
	for _, many := range []int64{math.MinInt64, -1, 2, 5, 1 << 32, 1<<32 + 1, math.MaxInt64} {
		unread(t, "another number in it", rawNest(2, items(many, 0)), impl.ErrSyntax)
	}
}

// With any byte turned to any other one it is refused, or it is the bytes of another right nest.
func TestNestReadTakesNoOtherBytes(t *testing.T) {
	text := impl.NestBytes(nested(leaf(dir("a", 1, 2), file("a/b", "dat", 1000)), nested(leaf(gone("c", 3)))))
	taken := 0
	for place := range text {
		for b := range 256 {
			other := text[:place] + string([]byte{byte(b)}) + text[place+1:]
			got := impl.NestRead(other)
			if got.Code == impl.OK && (!impl.NestRight(got.Nest) || impl.NestBytes(got.Nest) != other) {
				t.Fatalf("NestRead(%q), whose bytes these are not, =%s", other, shownNest(got.Nest))
			}
			if got.Code == impl.OK {
				taken++
				continue
			}
			unread(t, "a byte turned", other, impl.ErrSyntax)
		}
	}
	if taken < len(text) {
		t.Errorf("%d texts were taken, the right one itself %d times", taken, len(text))
	}
}

// A text of MaxBytes bytes is looked at; one byte more is refused ahead of all else.
func TestNestReadLimit(t *testing.T) {
	for _, text := range []string{"", "\x00", "\xff", impl.NestBytes(leafOf(longTree())), impl.NestBytes(impl.DeskNest())} {
		most := text + strings.Repeat("\x00", impl.MaxBytes-len(text))
		unread(t, "MaxBytes bytes", most, impl.ErrSyntax)
		unread(t, "one byte more", most+"\x00", impl.ErrSize)
	}
	unread(t, "a right nest that is too long", impl.NestBytes(sized(impl.MaxBytes))+"\x00", impl.ErrSize)
}

func TestNestReadIsNewMemory(t *testing.T) {
	n := nested(leaf(dir("abc", 1, 3), file("abc/def", "data", 2)), leaf(dir("abc", 1, 3), file("abc/def", "data", 2)))
	text := strings.Clone(impl.NestBytes(n))
	got := impl.NestRead(text).Nest
	for _, item := range got {
		for _, one := range item.Tree.Nodes {
			if sharesMemory(one.Path, text) || sharesMemory(one.Data, text) {
				t.Errorf("%+v shares memory with what was handed in", one)
			}
		}
	}
	if !sameNest(got, n) {
		t.Fatalf("it does not come back:%s", shownNest(got))
	}
	// What is put behind one list, or changed in it, is not seen in another one.
	got[1].Tree.Nodes[1].Data = "changed"
	_ = append(got[1].Tree.Nodes, make([]impl.Node, 8)...)
	if !sameNest(got[2:], n[2:]) || !sameNest(impl.NestRead(text).Nest, n) {
		t.Errorf("two lists of an answer share memory:%s", shownNest(got))
	}
}

func TestNestBytesKeepsItsArguments(t *testing.T) {
	for _, n := range thrownNests(60) {
		given := copyOfNest(n)
		if impl.NestBytes(given) != impl.NestBytes(given) || !sameNest(given, n) {
			t.Fatalf("asked twice it is another one:%s", shownNest(n))
		}
	}
}
