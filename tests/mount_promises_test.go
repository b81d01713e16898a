package tests

import (
	"slices"
	"strings"
	"testing"

	"loop.example/g00449/impl"
)

// leadsTo holds what Where tells of a path against what is to be told, and looks that nothing was changed by asking.
func leadsTo(t *testing.T, what string, s impl.Space, path string, id int64, rest string) {
	t.Helper()
	answers(t, what+" "+path, s, impl.Where(s, path), impl.SpaceOut{Space: s, Id: id, Path: rest})
}

// leadAlike says that each of these paths leads where it led ahead, save those under top.
func leadAlike(t *testing.T, what string, s impl.Space, then impl.Space, paths []string, top string) {
	t.Helper()
	for _, path := range paths {
		if !startsWith(path, top) {
			was := impl.Where(s, path)
			leadsTo(t, what+", then", then, path, was.Id, was.Path)
		}
	}
}

// asAhead is a Space but for the number that comes next, which is never one that was taken.
func asAhead(s impl.Space, next int64) impl.SpaceOut {
	s.Next = next
	return impl.SpaceOut{Space: s}
}

// Promise 23: what is mounted is where its path leads; unmounted, the space is as it was.
func TestWhatIsMountedIsWhereItsPathLeads(t *testing.T) {
	t.Parallel()
	n := nested(leaf(dir("a", 90, 1)), yard())
	mounts, over := 0, 0
	for _, s := range append(oddSpaces(), thrownSpaces(50)...) {
		paths := pathsOfSpace(s)
		for _, path := range paths {
			then := impl.MountOn(s, path, n)
			if then.Code != impl.OK {
				continue
			}
			mounts++
			if then.Id != s.Next || then.Space.Next != s.Next+1 || impl.Held(then.Space, then.Id) != 1 || !impl.SpaceRight(then.Space) {
				t.Fatalf("mounted at %q: id %d%s", path, then.Id, shownSpace(then.Space))
			}
			if got := impl.NestOf(then.Space, then.Id); !sameNestOut(got, impl.NestOut{Nest: n}) {
				t.Fatalf("mounted at %q: the nest is %d%s", path, got.Code, shownNest(got.Nest))
			}
			under := slices.ContainsFunc(s.Mounts, func(m impl.Mount) bool { return below(m.Path, path) })
			for _, rest := range []string{"", "a", "q", "f/g"} {
				whole := strings.Join(append(split(path), split(rest)...), "/")
				if len(split(whole)) <= impl.MaxNames && !under {
					leadsTo(t, "mounted", then.Space, whole, then.Id, rest)
				}
			}
			leadAlike(t, "mounted", s, then.Space, paths, path)
			if under {
				over++
				refusedSpace(t, "over another one", impl.Unmount(then.Space, path), impl.ErrBusy)
				leadAlike(t, "detached", s, impl.Detach(then.Space, path).Space, paths, path)
				continue
			}
			answers(t, "unmounted", then.Space, impl.Unmount(then.Space, path), asAhead(s, s.Next+1))
			answers(t, "detached", then.Space, impl.Detach(then.Space, path), asAhead(s, s.Next+1))
		}
	}
	if mounts < 200 || over < 20 {
		t.Errorf("only %d were mounted, %d of them over others", mounts, over)
	}
}

// Promise 23: what is in use is not unmounted; what was in use and is no more is.
func TestWhatIsInUseIsNotUnmounted(t *testing.T) {
	t.Parallel()
	opened, covered := 0, 0
	for _, s := range someSpaces() {
		for _, m := range s.Mounts[1:] {
			if impl.Unmount(s, m.Path).Code != impl.OK {
				continue
			}
			file := strings.Join(append(split(m.Path), "f"), "/")
			if got := impl.Open(s, file); got.Code == impl.OK {
				opened++
				refusedSpace(t, "a handle in it", impl.Unmount(got.Space, m.Path), impl.ErrBusy)
				closed := impl.Close(got.Space, got.Id)
				answers(t, "closed", got.Space, closed, asAhead(s, s.Next+1))
				answers(t, "unmounted", closed.Space, impl.Unmount(closed.Space, m.Path), asAhead(impl.Unmount(s, m.Path).Space, s.Next+1))
			}
			inner := strings.Join(append(split(m.Path), "a"), "/")
			if got := impl.MountOn(s, inner, yard()); got.Code == impl.OK {
				covered++
				refusedSpace(t, "a mount in it", impl.Unmount(got.Space, m.Path), impl.ErrBusy)
				freed := impl.Unmount(got.Space, inner)
				answers(t, "freed", got.Space, freed, asAhead(s, s.Next+1))
				answers(t, "unmounted", freed.Space, impl.Unmount(freed.Space, m.Path), asAhead(impl.Unmount(s, m.Path).Space, s.Next+1))
			}
		}
	}
	if opened < 30 || covered < 30 {
		t.Errorf("only %d were opened, and %d covered", opened, covered)
	}
}

// Promise 24: behind a detach no mount is there; what has a handle is still there.
func TestBehindADetachNoMountIsThere(t *testing.T) {
	t.Parallel()
	detached, held, many := 0, 0, 0
	for _, s := range someSpaces() {
		for _, m := range s.Mounts[1:] {
			then := impl.Detach(s, m.Path)
			if then.Code != impl.OK || then.Id != 0 || then.Path != "" || !impl.SpaceRight(then.Space) || then.Space.Next != s.Next {
				t.Fatalf("detach of %q: %d%s\nof%s", m.Path, then.Code, shownSpace(then.Space), shownSpace(s))
			}
			detached++
			if len(s.Mounts) > len(then.Space.Mounts)+1 {
				many++
			}
			for _, left := range then.Space.Mounts {
				if startsWith(left.Path, m.Path) || !slices.Contains(s.Mounts, left) {
					t.Fatalf("behind a detach of %q the mount %+v is there", m.Path, left)
				}
			}
			for _, other := range s.Mounts {
				if !startsWith(other.Path, m.Path) && !slices.Contains(then.Space.Mounts, other) {
					t.Fatalf("behind a detach of %q the mount %+v is not there", m.Path, other)
				}
			}
			refusedSpace(t, "once more", impl.Detach(then.Space, m.Path), impl.ErrNone)
			above := impl.Where(then.Space, parentOf(m.Path))
			leadsTo(t, "detached", then.Space, m.Path, above.Id, strings.Join(append(split(above.Path), split(m.Path)[len(split(m.Path))-1]), "/"))
			leadAlike(t, "detached", s, then.Space, pathsOfSpace(s), m.Path)
			if !slices.Equal(then.Space.Handles, s.Handles) {
				t.Fatalf("behind a detach of %q the handles are %+v, want %+v", m.Path, then.Space.Handles, s.Handles)
			}
			for _, h := range s.Handles {
				if got := impl.NestOf(then.Space, h.Inst); !sameNestOut(got, impl.NestOut{Nest: nestIn(s, h.Inst)}) {
					t.Fatalf("behind a detach of %q the nest of %+v is %d%s", m.Path, h, got.Code, shownNest(got.Nest))
				}
				held++
			}
			if impl.Held(s, m.Inst) == 1 {
				refusedNest(t, "what has no handle", impl.NestOf(then.Space, m.Inst), impl.ErrNone)
			}
		}
	}
	if detached < 100 || held < 100 || many < 30 {
		t.Errorf("only %d were detached, %d handles held, %d with others under them", detached, held, many)
	}
}

// Promise 24, to the end: what has a handle is there until its last one is closed, and then no more.
func TestDetachedInstanceGoesWithItsLastHandle(t *testing.T) {
	s := impl.MountOn(rooted(yard()), "a", yard()).Space
	s = impl.MountOn(s, "a/b", impl.DeskNest()).Space
	for _, path := range []string{"a/b/a/x", "a/f", "a/b/a/y", "a/b/a/x"} {
		s = impl.Open(s, path).Space
	}
	s = impl.Detach(s, "a").Space
	want := impl.Space{
		Insts:   []impl.Instance{inst(1, yard()), inst(2, yard()), inst(3, impl.DeskNest())},
		Mounts:  []impl.Mount{mounted("", 1)},
		Handles: []impl.Handle{handle(4, 3, "a/x"), handle(5, 2, "f"), handle(6, 3, "a/y"), handle(7, 3, "a/x")},
		Next:    8,
	}
	answers(t, "detached", s, impl.Where(s, ""), impl.SpaceOut{Space: want, Id: 1})
	for number, k := range []struct {
		id        int64
		two, desk int64
	}{{4, 1, 2}, {5, 0, 2}, {7, 0, 1}, {6, 0, 0}} {
		s = impl.Close(s, k.id).Space
		if impl.Held(s, 2) != k.two || impl.Held(s, 3) != k.desk || len(s.Handles) != 3-number || !impl.SpaceRight(s) {
			t.Fatalf("closed %d: held %d and %d%s", k.id, impl.Held(s, 2), impl.Held(s, 3), shownSpace(s))
		}
	}
	end := rooted(yard())
	end.Next = 8
	answers(t, "all closed", s, impl.Where(s, "a/b"), impl.SpaceOut{Space: end, Id: 1, Path: "a/b"})
	refusedSpace(t, "closed already", impl.Close(s, 6), impl.ErrNone)
}

// Many acts one behind the other: a Space that is right stays so, and is what the second telling makes of it.
func TestManyActsOneBehindTheOther(t *testing.T) {
	t.Parallel()
	d := dice{state: 23}
	done := 0
	for range 40 {
		s := impl.SpaceNew(nested(leaf(gone("b", 1)), yard())).Space
		for range 60 {
			a := d.thrownAct(s)
			got := a.do(s)
			answers(t, a, s, got, a.want(s))
			if got.Code == impl.OK {
				s = got.Space
				done++
			}
			if !impl.SpaceRight(s) || !fits(s) {
				t.Fatalf("behind %+v it is not right:%s", a, shownSpace(s))
			}
		}
	}
	if done < 200 {
		t.Errorf("only %d were done", done)
	}
}

// textsOf are all texts of a Space.
func textsOf(s impl.Space) []string {
	all := []string{}
	for _, m := range s.Mounts {
		all = append(all, m.Path)
	}
	for _, h := range s.Handles {
		all = append(all, h.Path)
	}
	for _, one := range s.Insts {
		for _, item := range one.Nest {
			for _, n := range item.Tree.Nodes {
				all = append(all, n.Path, n.Data)
			}
		}
	}
	return all
}

// spoil changes all of an answer, and puts something behind each of its lists.
func spoil(s impl.Space) {
	for _, one := range s.Insts {
		spoilNest(one.Nest)
	}
	_ = append(s.Insts, make([]impl.Instance, 8)...)
	_ = append(s.Mounts, make([]impl.Mount, 8)...)
	_ = append(s.Handles, make([]impl.Handle, 8)...)
	clear(s.Insts)
	clear(s.Mounts)
	clear(s.Handles)
}

func spoilNest(n []impl.Item) {
	for _, item := range n {
		_ = append(item.Tree.Nodes, make([]impl.Node, 8)...)
		clear(item.Tree.Nodes)
	}
	_ = append(n, make([]impl.Item, 8)...)
	clear(n)
}

// spaceActs is every call of the chapter that tells a Space, each with texts of its own; of all of them the code is OK.
func spaceActs(s impl.Space, n []impl.Item) []impl.SpaceOut {
	c := strings.Clone
	return []impl.SpaceOut{
		impl.SpaceNew(n), impl.Where(s, c("a/b/q")), impl.MountOn(s, c("a/b/a"), n), impl.MountOn(s, c("c"), n), impl.Unmount(s, c("b")),
		impl.Detach(s, c("a")), impl.Detach(s, c("b")), impl.Open(s, c("a/b/a/x")), impl.Close(s, 7), impl.Close(s, 11),
	}
}

func TestSpaceAnswersAreNewMemory(t *testing.T) {
	s, n := copyOfSpace(furnished()), copyOfNest(nested(yard(), yard()))
	given := textsOf(impl.Space{Insts: append(slices.Clone(s.Insts), inst(99, n)), Mounts: s.Mounts, Handles: s.Handles})
	fresh := spaceActs(copyOfSpace(furnished()), copyOfNest(n))
	for number, got := range spaceActs(s, n) {
		if got.Code != impl.OK {
			t.Fatalf("call %d tells %d", number, got.Code)
		}
		for _, text := range append(textsOf(got.Space), got.Path) {
			if slices.ContainsFunc(given, func(other string) bool { return sharesMemory(text, other) }) {
				t.Errorf("call %d: %q shares memory with what was handed in", number, text)
			}
		}
		spoil(got.Space)
		if !sameSpace(s, furnished()) || !sameNest(n, nested(yard(), yard())) {
			t.Fatalf("call %d: what was handed in has changed:%s%s", number, shownSpace(s), shownNest(n))
		}
	}
	for number, got := range spaceActs(s, n) {
		if !sameSpaceOut(got, fresh[number]) {
			t.Errorf("call %d tells another thing then", number)
		}
	}
	spoilNest(impl.NestOf(s, 3).Nest)
	if got := impl.NestOf(s, 3); !sameSpace(s, furnished()) || !sameNest(got.Nest, impl.DeskNest()) {
		t.Errorf("a nest shares memory with the space:%s", shownNest(got.Nest))
	}
}

// No list of an answer is a part of another one, though what was handed in has one list twice.
func TestSpaceAnswersShareNoLists(t *testing.T) {
	n := yard()
	s := rooted(n)
	for _, path := range []string{"a", "a/b", "b"} {
		s = impl.MountOn(s, path, n).Space
	}
	twice := impl.Space{Insts: []impl.Instance{inst(1, n), inst(2, n)}, Mounts: []impl.Mount{mounted("", 1), mounted("a", 2)}, Next: 3}
	for _, s := range []impl.Space{s, impl.Where(twice, "").Space, impl.MountOn(twice, "b", n).Space, impl.Open(twice, "f").Space} {
		for place, one := range s.Insts {
			kept := copyOfSpace(s)
			spoilNest(one.Nest)
			for other := range s.Insts {
				if other != place && !sameNest(s.Insts[other].Nest, kept.Insts[other].Nest) {
					t.Fatalf("the nests of %d and %d share memory", one.Id, s.Insts[other].Id)
				}
			}
		}
	}
	if !sameNest(n, yard()) {
		t.Errorf("what was handed in has changed:%s", shownNest(n))
	}
}

// What a path was handed in for is not kept as that text.
func TestSpacesKeepNoText(t *testing.T) {
	mount, open := strings.Clone("a/b"), strings.Clone("g/f")
	s := rooted(yard())
	for _, got := range []impl.SpaceOut{impl.MountOn(s, mount, yard()), impl.Open(s, open), impl.Where(s, open), impl.Where(impl.MountOn(s, "g", yard()).Space, open)} {
		for _, text := range append(textsOf(got.Space), got.Path) {
			if sharesMemory(text, mount) || sharesMemory(text, open) || got.Code != impl.OK {
				t.Errorf("%q shares memory with what was handed in", text)
			}
		}
	}
}
