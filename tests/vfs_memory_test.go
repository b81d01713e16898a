package tests

import (
	"slices"
	"strings"
	"testing"

	"loop.example/g00449/impl"
)

// vfsCalls is every call of the chapter, each with texts of its own, which are told too; of all of them the code is OK.
func vfsCalls(s impl.Space) ([]impl.VfsOut, []string) {
	given := []string{}
	c := func(text string) string {
		given = append(given, strings.Clone(text))
		return given[len(given)-1]
	}
	return []impl.VfsOut{
		impl.VfsRead(s, c("f")), impl.VfsRead(s, c("a/b/a/y")), impl.VfsList(s, c("")), impl.VfsList(s, c("a/b")), impl.VfsList(s, c("a/b/a")), impl.VfsList(s, c("a/a")),
		impl.VfsWrite(s, c("a/b/a/x"), c("written"), 1), impl.VfsWrite(s, c("new"), c("written"), 2), impl.VfsMakeDir(s, c("b/a/made"), 3), impl.VfsMakeDir(s, c("made"), 3),
		impl.VfsRemove(s, c("a/b/a/x")), impl.VfsRemove(s, c("c")), impl.VfsTouch(s, c("a/b/a/y"), 4), impl.VfsTouch(s, c("g"), 4),
		impl.VfsHandle(s, 6), impl.VfsHandle(s, 10), impl.VfsPut(s, 6, c("put in"), 5), impl.VfsPut(s, 7, c("put in"), 6), impl.VfsFlatter(s, c("a/b")), impl.VfsFlatter(s, c("b/a/q")),
	}, given
}

// textsToldIn are all texts of an answer.
func textsToldIn(out impl.VfsOut) []string {
	return slices.Concat(textsOf(out.Space), out.Names, []string{out.Data})
}

func TestVfsAnswersAreNewMemory(t *testing.T) {
	s := copyOfSpace(furnished())
	fresh, _ := vfsCalls(copyOfSpace(furnished()))
	all, given := vfsCalls(s)
	given = append(given, textsOf(s)...)
	for number, got := range all {
		if got.Code != impl.OK {
			t.Fatalf("call %d tells %d", number, got.Code)
		}
		for _, text := range textsToldIn(got) {
			if slices.ContainsFunc(given, func(other string) bool { return sharesMemory(text, other) }) {
				t.Errorf("call %d: %q shares memory with what was handed in", number, text)
			}
		}
		spoil(got.Space)
		_ = append(got.Names, make([]string, 8)...)
		clear(got.Names)
		if !sameSpace(s, furnished()) {
			t.Fatalf("call %d: what was handed in has changed:%s", number, shownSpace(s))
		}
	}
	again, _ := vfsCalls(s)
	for number, got := range again {
		if !sameVfsOut(got, fresh[number]) {
			t.Errorf("call %d tells another thing then: %s", number, shownVfs(got))
		}
	}
}

// No list of an answer is a part of another one, though what was handed in has one list twice.
func TestVfsAnswersShareNoLists(t *testing.T) {
	one := leaf(dir("a", 1, 0), dir("a/b", 2, 0), file("f", "top", 3))
	n := nested(one, nested(one, one))
	s := impl.Space{Insts: []impl.Instance{inst(1, n), inst(2, n), inst(3, n)}, Mounts: []impl.Mount{mounted("", 1), mounted("a", 2)}, Handles: []impl.Handle{handle(4, 3, "f"), handle(5, 3, "f")}, Next: 6}
	kept := copyOfSpace(s)
	for number, got := range []impl.VfsOut{
		impl.VfsWrite(s, "f", "new", 1), impl.VfsWrite(s, "a/new", "new", 1), impl.VfsMakeDir(s, "a/a/d", 1), impl.VfsRemove(s, "a/f"), impl.VfsTouch(s, "a/a", 1), impl.VfsPut(s, 4, "put", 1), impl.VfsFlatter(s, ""), impl.VfsFlatter(s, "a"),
	} {
		if got.Code != impl.OK {
			t.Fatalf("call %d tells %d", number, got.Code)
		}
		for place := range got.Space.Insts {
			for item := range got.Space.Insts[place].Nest {
				was := copyOfSpace(got.Space)
				nodes := got.Space.Insts[place].Nest[item].Tree.Nodes
				_ = append(nodes, make([]impl.Node, 8)...)
				clear(nodes)
				clear(was.Insts[place].Nest[item].Tree.Nodes)
				if !sameSpace(got.Space, was) {
					t.Fatalf("call %d: a list of Inst %d shares memory with another one", number, got.Space.Insts[place].Id)
				}
			}
		}
		spoil(got.Space)
		if !sameSpace(s, kept) {
			t.Fatalf("call %d: what was handed in has changed:%s", number, shownSpace(s))
		}
	}
}

// Two answers are two, though they were made of the same.
func TestVfsAnswersShareNothingWithEachOther(t *testing.T) {
	s := furnished()
	first, second := impl.VfsList(s, "a"), impl.VfsList(s, "a")
	clear(first.Names)
	vfsTells(t, "listed", s, second, impl.VfsList(furnished(), "a"))
	one, two := impl.VfsTouch(s, "f", 1), impl.VfsTouch(s, "f", 1)
	spoil(one.Space)
	vfsTells(t, "touched", s, two, impl.VfsTouch(furnished(), "f", 1))
}
