package tests

import (
	"slices"
	"strings"
	"testing"

	"loop.example/g00449/impl"
)

// filesOf are the paths of a Space at which a file may be opened.
func filesOf(s impl.Space) []string {
	return slices.DeleteFunc(pathsOfSpace(s), func(path string) bool { return impl.Open(s, path).Code != impl.OK })
}

// mountsAbove are the paths of the mounts that a path is under, but for the root.
func mountsAbove(s impl.Space, path string) []string {
	all := []string{}
	for _, m := range s.Mounts[1:] {
		if startsWith(path, m.Path) {
			all = append(all, m.Path)
		}
	}
	return all
}

// Promise 25: a file that is opened is read by its handle as by its path, though nothing be mounted there any more.
func TestOpenedFileIsReadByItsHandle(t *testing.T) {
	t.Parallel()
	opened, detached := 0, 0
	for _, s := range slices.Concat(oddSpaces(), thrownSpaces(60), layeredSpaces(30)) {
		for _, path := range filesOf(s) {
			o := impl.Open(s, path)
			was := impl.VfsRead(s, path)
			if was.Code != impl.OK {
				t.Fatalf("what may be opened at %q is not read: %d", path, was.Code)
			}
			opened++
			vfsTells(t, "by its handle "+path, o.Space, impl.VfsHandle(o.Space, o.Id), was)
			vfsTells(t, "by its path "+path, o.Space, impl.VfsRead(o.Space, path), was)
			for _, top := range mountsAbove(s, path) {
				then := impl.Detach(o.Space, top).Space
				detached++
				vfsTells(t, "detached "+top, then, impl.VfsHandle(then, o.Id), was)
				if got := impl.VfsRead(then, path); got.Code == impl.OK && impl.Where(then, path).Id == impl.Where(s, path).Id {
					t.Fatalf("%q is still read by its path", path)
				}
			}
		}
	}
	if opened < 300 || detached < 150 {
		t.Errorf("only %d were opened, and %d detached", opened, detached)
	}
}

// Promise 25 once more: what changes is seen by both, and goes on so by the handle when no path leads there any more.
func TestHandleAndPathGoOnTogether(t *testing.T) {
	t.Parallel()
	held := 0
	for _, s := range slices.Concat(oddSpaces(), thrownSpaces(30), layeredSpaces(20)) {
		for _, path := range filesOf(s) {
			o := impl.Open(s, path)
			written := impl.VfsWrite(o.Space, path, "by path", 601)
			if written.Code != impl.OK {
				continue
			}
			vfsTells(t, "written "+path, s, impl.VfsHandle(written.Space, o.Id), toldFile("by path", 601))
			put := impl.VfsPut(written.Space, o.Id, "by handle", 602)
			if put.Code != impl.OK {
				continue
			}
			held++
			vfsTells(t, "put "+path, s, impl.VfsHandle(put.Space, o.Id), toldFile("by handle", 602))
			vfsTells(t, "put "+path, s, impl.VfsRead(put.Space, path), toldFile("by handle", 602))
			if flat := impl.VfsFlatter(put.Space, path); flat.Code == impl.OK {
				vfsTells(t, "flatter "+path, s, impl.VfsHandle(flat.Space, o.Id), toldFile("by handle", 602))
			}
			for _, top := range mountsAbove(s, path) {
				then := impl.Detach(put.Space, top).Space
				vfsTells(t, "detached "+path, s, impl.VfsHandle(then, o.Id), toldFile("by handle", 602))
				last := impl.VfsPut(then, o.Id, "alone", 603)
				vfsTells(t, "put behind it "+path, s, impl.VfsHandle(last.Space, o.Id), toldFile("alone", 603))
			}
			if gone := impl.VfsRemove(put.Space, path); gone.Code == impl.OK {
				refusedVfs(t, "removed", impl.VfsRead(gone.Space, path), impl.ErrNone)
				refusedVfs(t, "removed", impl.VfsHandle(gone.Space, o.Id), impl.ErrNone)
			}
		}
	}
	if held < 150 {
		t.Errorf("only %d were held", held)
	}
}

// elsewhereAsAhead says that a change has touched one instance alone: the nests of all others, the mounts, the
// handles and the number that comes next are what they were, and so is all that is read and listed there.
func elsewhereAsAhead(t *testing.T, w wish, s impl.Space, then impl.Space) {
	t.Helper()
	id, _ := w.goal(s)
	if !sameSpace(withNest(then, id, nestIn(s, id)), s) || !impl.SpaceRight(then) {
		t.Fatalf("%+v changes more than the nest of %d:%s\nof%s", w, id, shownSpace(then), shownSpace(s))
	}
	for _, m := range s.Mounts {
		if m.Inst == id {
			continue
		}
		for _, path := range []string{"", "a", "f", "a/x", "q"} {
			whole := strings.Join(append(split(m.Path), split(path)...), "/")
			if top, _ := leads(s, whole); top.Inst == id || len(split(whole)) > impl.MaxNames {
				continue
			}
			vfsTells(t, "read "+whole, s, impl.VfsRead(then, whole), impl.VfsRead(s, whole))
			vfsTells(t, "listed "+whole, s, impl.VfsList(then, whole), impl.VfsList(s, whole))
		}
	}
	for _, h := range s.Handles {
		if h.Inst != id {
			vfsTells(t, h, s, impl.VfsHandle(then, h.Id), impl.VfsHandle(s, h.Id))
		}
	}
}

// besideAsAhead says that in the same instance all other paths are read as ahead, and all directories but that of
// the path listed so.
func besideAsAhead(t *testing.T, w wish, s impl.Space, then impl.Space, paths []string) {
	t.Helper()
	for _, path := range paths {
		if path != w.path {
			vfsTells(t, "read beside "+w.path, s, impl.VfsRead(then, path), impl.VfsRead(s, path))
		}
		if path != w.path && path != parentOf(w.path) {
			vfsTells(t, "listed beside "+w.path, s, impl.VfsList(then, path), impl.VfsList(s, path))
		}
	}
}

// eachChange does one thing at each path of many spaces, and lets what came of it be looked at.
func eachChange(t *testing.T, verb string, look func(w wish, s impl.Space, then impl.Space, paths []string)) {
	t.Helper()
	t.Parallel()
	held := 0
	for _, s := range slices.Concat(oddSpaces(), thrownSpaces(12), layeredSpaces(12)) {
		paths := pathsToAsk(s)
		for place, path := range paths {
			w := wish{verb: verb, path: path, time: 701}
			if verb == toWrite {
				w.data = "new"
			}
			if then := w.do(s); then.Code == impl.OK {
				elsewhereAsAhead(t, w, s, then.Space)
				// Of all paths beside, some, and others with each change.
				look(w, s, then.Space, slices.DeleteFunc(slices.Clone(paths), func(other string) bool { return (len(other)+place)%5 > 0 }))
				held++
			}
		}
	}
	if held < 200 {
		t.Errorf("only %d changes were looked at", held)
	}
}

// Promise 26: what is written to a path is read there; what is mounted elsewhere is as ahead.
func TestWhatIsWrittenIsReadThere(t *testing.T) {
	eachChange(t, toWrite, func(w wish, s impl.Space, then impl.Space, paths []string) {
		vfsTells(t, w, s, impl.VfsRead(then, w.path), toldFile("new", 701))
		if got := impl.VfsList(then, parentOf(w.path)); !slices.Contains(got.Names, split(w.path)[len(split(w.path))-1]) {
			t.Fatalf("%+v: its parent has %q", w, got.Names)
		}
		besideAsAhead(t, w, s, then, paths)
	})
}

// Promise 26, of the other changes: a directory that is made is there, and empty.
func TestWhatIsMadeIsListedThere(t *testing.T) {
	eachChange(t, toMake, func(w wish, s impl.Space, then impl.Space, paths []string) {
		vfsTells(t, w, s, impl.VfsList(then, w.path), impl.VfsOut{})
		refusedVfs(t, w, impl.VfsRead(then, w.path), impl.ErrDir)
		besideAsAhead(t, w, s, then, slices.DeleteFunc(paths, func(path string) bool { return startsWith(path, w.path) }))
	})
}

// Promise 26, of the other changes: what is removed is no more there.
func TestWhatIsRemovedIsNotThere(t *testing.T) {
	eachChange(t, toDrop, func(w wish, s impl.Space, then impl.Space, paths []string) {
		refusedVfs(t, w, impl.VfsRead(then, w.path), impl.ErrNone)
		refusedVfs(t, w, impl.VfsList(then, w.path), impl.ErrNone)
		if got := impl.VfsList(then, parentOf(w.path)); slices.Contains(got.Names, split(w.path)[len(split(w.path))-1]) {
			t.Fatalf("%+v: its parent has %q", w, got.Names)
		}
		besideAsAhead(t, w, s, then, paths)
	})
}

// Promise 26, of the other changes: what is touched has that time, and all else as ahead.
func TestWhatIsTouchedHasThatTime(t *testing.T) {
	eachChange(t, toTouch, func(w wish, s impl.Space, then impl.Space, paths []string) {
		was := impl.VfsRead(s, w.path)
		if was.Code == impl.OK {
			was.Time = 701
		}
		vfsTells(t, w, s, impl.VfsRead(then, w.path), was)
		vfsTells(t, w, s, impl.VfsList(then, w.path), impl.VfsList(s, w.path))
		vfsTells(t, w, s, impl.VfsList(then, parentOf(w.path)), impl.VfsList(s, parentOf(w.path)))
		besideAsAhead(t, w, s, then, paths)
	})
}

// What is made flatter is read and listed as ahead, everywhere.
func TestWhatIsMadeFlatterIsReadAsAhead(t *testing.T) {
	eachChange(t, toFlatten, func(w wish, s impl.Space, then impl.Space, paths []string) {
		for _, path := range append(paths, w.path) {
			vfsTells(t, "read, then", s, impl.VfsRead(then, path), impl.VfsRead(s, path))
			vfsTells(t, "listed, then", s, impl.VfsList(then, path), impl.VfsList(s, path))
		}
		for _, h := range s.Handles {
			vfsTells(t, "by its handle, then", s, impl.VfsHandle(then, h.Id), impl.VfsHandle(s, h.Id))
		}
	})
}

// Promise 26, by a handle: what is put is read by each handle of that path, and by the path where one leads there.
func TestWhatIsPutIsReadThere(t *testing.T) {
	t.Parallel()
	held, byPath := 0, 0
	for _, s := range slices.Concat(oddSpaces(), thrownSpaces(60), layeredSpaces(60)) {
		for _, h := range s.Handles {
			w := wish{verb: toPut, id: h.Id, data: "put", time: 801}
			then := w.do(s)
			if then.Code != impl.OK {
				continue
			}
			held++
			elsewhereAsAhead(t, w, s, then.Space)
			for _, other := range s.Handles {
				if other.Inst == h.Inst && other.Path == h.Path {
					vfsTells(t, other, s, impl.VfsHandle(then.Space, other.Id), toldFile("put", 801))
				}
			}
			for _, m := range s.Mounts {
				path := strings.Join(append(split(m.Path), split(h.Path)...), "/")
				if top, rest := leads(s, path); len(split(path)) <= impl.MaxNames && top.Inst == h.Inst && rest == h.Path {
					byPath++
					vfsTells(t, path, s, impl.VfsRead(then.Space, path), toldFile("put", 801))
				}
			}
		}
	}
	if held < 150 || byPath < 50 {
		t.Errorf("only %d were put, %d of them where a path leads", held, byPath)
	}
}

// thrownWish is one that may often be had.
func (d *dice) thrownWish(s impl.Space) wish {
	paths := pathsToAsk(s)
	path := paths[d.below(len(paths))]
	w := append(wishesAt(path), changesAt(path)...)[d.below(11)]
	if len(s.Handles) > 0 && d.below(4) == 0 {
		w = wishesOf(s.Handles[d.below(len(s.Handles))].Id)[d.below(2)]
	}
	return w
}

// Many calls one behind the other, of this chapter and of the one ahead: each tells what the second telling does.
func TestVfsManyCallsOneBehindTheOther(t *testing.T) {
	t.Parallel()
	d := dice{state: 25}
	done := 0
	for range 30 {
		s := impl.SpaceNew(nested(leaf(gone("b", 1)), nested(yard(), leaf(dir("b", 1, 0), file("b/low", "low", 2))))).Space
		for range 50 {
			if d.below(3) == 0 {
				a := d.thrownAct(s)
				got := a.do(s)
				answers(t, a, s, got, a.want(s))
				if got.Code == impl.OK {
					s = got.Space
				}
				continue
			}
			w := d.thrownWish(s)
			got := w.do(s)
			vfsTells(t, w, s, got, w.want(s))
			if len(got.Space.Insts) > 0 {
				s = got.Space
				done++
			}
			if !impl.SpaceRight(s) || !fits(s) {
				t.Fatalf("behind %+v it is not right:%s", w, shownSpace(s))
			}
		}
	}
	if done < 250 {
		t.Errorf("only %d changes were made", done)
	}
}
