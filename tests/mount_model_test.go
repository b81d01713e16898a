package tests

import (
	"fmt"
	"slices"
	"strings"
	"testing"

	"loop.example/g00449/impl"
)

const (
	toMount  = "mount"
	toLeave  = "leave"
	toDetach = "detach"
	toOpen   = "open"
	toClose  = "close"
	toAsk    = "where"
)

func inst(id int64, n []impl.Item) impl.Instance {
	return impl.Instance{Id: id, Nest: n}
}

func mounted(path string, inst int64) impl.Mount {
	return impl.Mount{Path: path, Inst: inst}
}

func handle(id int64, inst int64, path string) impl.Handle {
	return impl.Handle{Id: id, Inst: inst, Path: path}
}

// yard is a nest with room for many mounts, one under the other, and with files.
func yard() []impl.Item {
	return leaf(dir("a", 1, 0), dir("a/b", 2, 0), dir("a/b/c", 3, 0), file("a/b/f", "deep", 4), file("a/x", "in", 5), dir("b", 6, 0), dir("c", 7, 0), dir("d", 8, 0), dir("e", 9, 0), file("f", "top", 10), dir("g", 11, 0), file("g/f", "", 12))
}

// rooted is a Space of one nest.
func rooted(n []impl.Item) impl.Space {
	return impl.Space{Insts: []impl.Instance{inst(1, n)}, Mounts: []impl.Mount{mounted("", 1)}, Next: 2}
}

// furnished is a Space with mounts one under the other and side by side, one of them with a handle, and with an
// instance that has but handles any more.
func furnished() impl.Space {
	return impl.Space{
		Insts:   []impl.Instance{inst(1, yard()), inst(3, impl.DeskNest()), inst(4, yard()), inst(5, leaf(file("x", "alone", 1))), inst(9, impl.DeskNest())},
		Mounts:  []impl.Mount{mounted("", 1), mounted("a", 4), mounted("a/b", 3), mounted("b", 9)},
		Handles: []impl.Handle{handle(6, 3, "a/x"), handle(7, 5, "x"), handle(10, 5, "x"), handle(11, 1, "f")},
		Next:    12,
	}
}

func sameSpace(a impl.Space, b impl.Space) bool {
	sameInst := func(x, y impl.Instance) bool { return x.Id == y.Id && sameNest(x.Nest, y.Nest) }
	return a.Next == b.Next && slices.EqualFunc(a.Insts, b.Insts, sameInst) && slices.Equal(a.Mounts, b.Mounts) && slices.Equal(a.Handles, b.Handles)
}

func sameSpaceOut(a impl.SpaceOut, b impl.SpaceOut) bool {
	return a.Code == b.Code && a.Id == b.Id && a.Path == b.Path && sameSpace(a.Space, b.Space)
}

func shownSpace(s impl.Space) string {
	text := fmt.Sprintf("\nnext %d, mounts %+v, handles %+v", s.Next, s.Mounts, s.Handles)
	for _, one := range s.Insts {
		text += fmt.Sprintf("\n inst %d%.600s", one.Id, shownNest(one.Nest))
	}
	return text
}

// answers holds an answer against what is to be told, all of it.
func answers(t *testing.T, what any, s impl.Space, got impl.SpaceOut, want impl.SpaceOut) {
	t.Helper()
	if !sameSpaceOut(got, want) {
		t.Fatalf("%.300s: code %d, id %d, path %q%.3000s\nwant code %d, id %d, path %q%.3000s\nof%.3000s", fmt.Sprintf("%+v", what), got.Code, got.Id, got.Path, shownSpace(got.Space), want.Code, want.Id, want.Path, shownSpace(want.Space), shownSpace(s))
	}
}

// refusedSpace says that nothing but the code is told.
func refusedSpace(t *testing.T, what any, got impl.SpaceOut, code int64) {
	t.Helper()
	answers(t, what, impl.Space{}, got, impl.SpaceOut{Code: code})
}

// fits is what chapter 9 says of a right Space.
func fits(s impl.Space) bool {
	if s.Next < 1 || s.Next > 1000000 || len(s.Insts) > 12 || len(s.Mounts) < 1 || len(s.Mounts) > 6 || len(s.Handles) > 6 {
		return false
	}
	uses, mounts := map[int64]int{}, map[int64]int{}
	for place, one := range s.Insts {
		if one.Id < 1 || one.Id > s.Next-1 || place > 0 && s.Insts[place-1].Id >= one.Id || !counted(one.Nest).right {
			return false
		}
		uses[one.Id] = 0
	}
	for place, m := range s.Mounts {
		if m.Lazy || !impl.PathRight(m.Path) || place == 0 && m.Path != "" || place > 0 && slices.Compare(split(s.Mounts[place-1].Path), split(m.Path)) >= 0 {
			return false
		}
		if mounts[m.Inst]++; mounts[m.Inst] > 1 {
			return false
		}
	}
	for place, h := range s.Handles {
		if h.Id < 1 || h.Id > s.Next-1 || place > 0 && s.Handles[place-1].Id >= h.Id || !impl.PathRight(h.Path) || h.Path == "" {
			return false
		}
	}
	for _, id := range heldIn(s) {
		if _, there := uses[id]; !there {
			return false
		}
		uses[id]++
	}
	for _, count := range uses {
		if count == 0 {
			return false
		}
	}
	return true
}

// heldIn are the instances that the mounts and the handles name, over and over.
func heldIn(s impl.Space) []int64 {
	all := []int64{}
	for _, m := range s.Mounts {
		all = append(all, m.Inst)
	}
	for _, h := range s.Handles {
		all = append(all, h.Inst)
	}
	return all
}

// leads is the mount with the most names that a path is at or under, and the rest of the path.
func leads(s impl.Space, path string) (impl.Mount, string) {
	most := s.Mounts[0]
	for _, m := range s.Mounts {
		if startsWith(path, m.Path) && len(split(m.Path)) > len(split(most.Path)) {
			most = m
		}
	}
	return most, strings.Join(split(path)[len(split(most.Path)):], "/")
}

// nestIn is the nest of an instance, or none.
func nestIn(s impl.Space, id int64) []impl.Item {
	for _, one := range s.Insts {
		if one.Id == id {
			return one.Nest
		}
	}
	return nil
}

// used is a Space without the instances that nothing names any more.
func used(s impl.Space) impl.Space {
	s.Insts = slices.DeleteFunc(slices.Clone(s.Insts), func(one impl.Instance) bool { return !slices.Contains(heldIn(s), one.Id) })
	return s
}

// act is one call of the chapter; what a verb has no use for does not count.
type act struct {
	verb string
	path string
	id   int64
	n    []impl.Item
}

// do is what the program makes of a Space.
func (a act) do(s impl.Space) impl.SpaceOut {
	switch a.verb {
	case toMount:
		return impl.MountOn(s, a.path, a.n)
	case toLeave:
		return impl.Unmount(s, a.path)
	case toDetach:
		return impl.Detach(s, a.path)
	case toOpen:
		return impl.Open(s, a.path)
	case toClose:
		return impl.Close(s, a.id)
	}
	return impl.Where(s, a.path)
}

// actsAt are all that may be done at a path.
func actsAt(path string) []act {
	return []act{{verb: toMount, path: path, n: impl.DeskNest()}, {verb: toLeave, path: path}, {verb: toDetach, path: path}, {verb: toOpen, path: path}, {verb: toAsk, path: path}}
}

// wantCode is the first fault that chapter 9 names, where all that is handed in is right.
func (a act) wantCode(s impl.Space) int64 {
	top, rest := leads(s, a.path)
	there := nodeOf(seenIn(nestIn(s, top.Inst)), rest)
	under := slices.ContainsFunc(s.Mounts, func(m impl.Mount) bool { return below(m.Path, a.path) })
	opened := slices.ContainsFunc(s.Handles, func(h impl.Handle) bool { return h.Inst == top.Inst })
	for _, fault := range []struct {
		verbs string
		holds bool
		code  int64
	}{
		{toLeave + toDetach, a.path == "", impl.ErrForm},
		{toMount, rest == "", impl.ErrThere},
		{toMount, there.Path == "", impl.ErrNone},
		{toMount, there.Kind != impl.KdDir, impl.ErrFile},
		{toMount, len(s.Mounts) == 6 || s.Next == 1000000, impl.ErrFull},
		{toLeave + toDetach, rest != "", impl.ErrNone},
		{toLeave, under || opened, impl.ErrBusy},
		{toOpen, rest == "" || there.Path == "", impl.ErrNone},
		{toOpen, there.Kind != impl.KdFile, impl.ErrDir},
		{toOpen, len(s.Handles) == 6 || s.Next == 1000000, impl.ErrFull},
		{toClose, !slices.ContainsFunc(s.Handles, func(h impl.Handle) bool { return h.Id == a.id }), impl.ErrNone},
	} {
		if strings.Contains(fault.verbs, a.verb) && fault.holds {
			return fault.code
		}
	}
	return impl.OK
}

// want is what chapter 9 says of a right Space, where all that is handed in is right.
func (a act) want(s impl.Space) impl.SpaceOut {
	if code := a.wantCode(s); code != impl.OK {
		return impl.SpaceOut{Code: code}
	}
	top, rest := leads(s, a.path)
	then, id := s, s.Next
	switch a.verb {
	case toAsk:
		return impl.SpaceOut{Space: s, Id: top.Inst, Path: rest}
	case toMount:
		then.Next = id + 1
		then.Insts = append(slices.Clone(s.Insts), inst(id, a.n))
		then.Mounts = append(slices.Clone(s.Mounts), mounted(a.path, id))
		slices.SortFunc(then.Mounts, func(x, y impl.Mount) int { return slices.Compare(split(x.Path), split(y.Path)) })
		return impl.SpaceOut{Space: then, Id: id}
	case toOpen:
		then.Next = id + 1
		then.Handles = append(slices.Clone(s.Handles), handle(id, top.Inst, rest))
		return impl.SpaceOut{Space: then, Id: id}
	case toClose:
		then.Handles = slices.DeleteFunc(slices.Clone(s.Handles), func(h impl.Handle) bool { return h.Id == a.id })
	default:
		then.Mounts = slices.DeleteFunc(slices.Clone(s.Mounts), func(m impl.Mount) bool { return startsWith(m.Path, a.path) })
	}
	return impl.SpaceOut{Space: used(then)}
}

// pathsOfSpace are the root, the paths of all instances as the mounts make them, and some that lead nowhere.
func pathsOfSpace(s impl.Space) []string {
	paths := []string{"", "q", "q/q", "a", "a/b", "a/b/c", "a/b/c/d/e/f"}
	for _, m := range s.Mounts {
		for _, path := range pathsIn(nestIn(s, m.Inst)) {
			if whole := append(split(m.Path), split(path)...); len(whole) <= impl.MaxNames {
				paths = append(paths, strings.Join(whole, "/"))
			}
		}
	}
	slices.Sort(paths)
	return slices.Compact(paths)
}

// thrownAct is one that may often be done.
func (d *dice) thrownAct(s impl.Space) act {
	nests := [][]impl.Item{yard(), impl.DeskNest(), leaf(dir("a", 1, 0), dir("a/b", 2, 0), file("a/x", "", 3)), nested(leaf(gone("b", 1)), yard())}
	paths := pathsOfSpace(s)
	path := paths[d.below(len(paths))]
	if d.below(3) == 0 {
		path = s.Mounts[d.below(len(s.Mounts))].Path
	}
	verb := []string{toMount, toMount, toMount, toMount, toLeave, toDetach, toOpen, toOpen, toOpen, toOpen, toClose}[d.below(11)]
	return act{verb: verb, path: path, id: int64(1 + d.below(int(min(s.Next, 40)))), n: nests[d.below(len(nests))]}
}

// thrownSpaces are what many acts make of a nest, one behind the other.
func thrownSpaces(count int) []impl.Space {
	d := dice{state: 8}
	all := []impl.Space{}
	for len(all) < count {
		s := rooted(yard())
		for range 40 {
			if then := d.thrownAct(s).want(s); then.Code == impl.OK {
				s = then.Space
				all = append(all, s)
			}
		}
	}
	return all
}

// oddSpaces are right ones to which no act leads: of numbers far apart, or with mounts where nothing is.
func oddSpaces() []impl.Space {
	alone := rooted(leaf())
	far := furnished()
	far.Next = impl.MaxTime
	last := impl.Space{Insts: []impl.Instance{inst(impl.MaxTime-1, yard())}, Mounts: []impl.Mount{mounted("", impl.MaxTime-1)}, Handles: []impl.Handle{handle(impl.MaxTime-1, impl.MaxTime-1, "q")}, Next: impl.MaxTime}
	one := last
	one.Insts, one.Mounts, one.Handles = []impl.Instance{inst(7, yard())}, []impl.Mount{mounted("", 7)}, nil
	one.Next = impl.MaxTime - 1
	lost := impl.Space{
		Insts:   []impl.Instance{inst(2, leaf(file("f", "", 1))), inst(3, leaf(dir("u", 1, 0))), inst(4, leaf(gone("u", 1))), inst(5, leaf(file("k", "", 2)))},
		Mounts:  []impl.Mount{mounted("", 3), mounted("f", 5), mounted("n/o/w", 2), mounted("u", 4)},
		Handles: []impl.Handle{handle(1, 5, "was"), handle(2, 3, "u/v/w"), handle(5, 4, longPath)},
		Next:    6,
	}
	return []impl.Space{alone, rooted(impl.DeskNest()), rooted(yard()), furnished(), far, last, one, lost, filled(impl.MaxMounts, 0), filled(impl.MaxMounts, impl.MaxOpen), filled(1, impl.MaxOpen), rooted(crowdedNests()[0])}
}

// someSpaces are right ones of many kinds.
func someSpaces() []impl.Space {
	return append(oddSpaces(), thrownSpaces(150)...)
}

// filled has so many mounts, and so many handles, each of an instance of its own.
func filled(mounts int, handles int) impl.Space {
	s := impl.Space{Next: 1}
	for _, path := range []string{"", "a", "a/b", "b", "c", "d", "e"}[:mounts] {
		s.Insts = append(s.Insts, inst(s.Next, yard()))
		s.Mounts = append(s.Mounts, mounted(path, s.Next))
		s.Next++
	}
	for range handles {
		s.Insts = append(s.Insts, inst(s.Next, leaf(file("x", "", s.Next))))
		s.Handles = append(s.Handles, handle(s.Next, s.Next, "x"))
		s.Next++
	}
	return s
}

// copyOfSpace is a Space whose lists have room behind their ends, and whose texts are memory of their own.
func copyOfSpace(s impl.Space) impl.Space {
	out := impl.Space{Insts: make([]impl.Instance, 0, 20), Mounts: make([]impl.Mount, 0, 20), Handles: make([]impl.Handle, 0, 20), Next: s.Next}
	for _, one := range s.Insts {
		out.Insts = append(out.Insts, inst(one.Id, copyOfNest(one.Nest)))
	}
	for _, m := range s.Mounts {
		m.Path = strings.Clone(m.Path)
		out.Mounts = append(out.Mounts, m)
	}
	for _, h := range s.Handles {
		h.Path = strings.Clone(h.Path)
		out.Handles = append(out.Handles, h)
	}
	return out
}
