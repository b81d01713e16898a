package tests

import (
	"testing"

	"loop.example/g00449/impl"
)

// The nest of the desk, as chapter 11 says it; the given tests of nests begin with it.
func TestDeskNest(t *testing.T) {
	first := nested(leaf(), leaf(dir("a", 1, 0), file("a/x", "in", 2)))
	second := nested(leaf(dir("a", 3, 0), file("a/x", "low", 4), file("a/y", "far", 5)))
	want := nested(first, second)
	got := impl.DeskNest()
	if !sameNest(got, want) {
		t.Fatalf("DeskNest =%s\nwant%s", shownNest(got), shownNest(want))
	}
	got[0].Many, got[3].Tree.Nodes[0].Path = 3, "changed"
	if !sameNest(impl.DeskNest(), want) {
		t.Error("two answers of DeskNest share memory")
	}
}
