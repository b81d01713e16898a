package tests

import (
	"fmt"
	"slices"
	"strings"
	"testing"

	"loop.example/g00449/impl"
)

const (
	toRead    = "read"
	toList    = "list"
	toGet     = "get"
	toPut     = "put"
	toFlatten = "flatten"
)

// wish is one call of chapter 10; what a verb has no use for does not count.
type wish struct {
	verb string
	path string
	id   int64
	data string
	time int64
}

// do is what the program tells of a Space.
func (w wish) do(s impl.Space) impl.VfsOut {
	switch w.verb {
	case toRead:
		return impl.VfsRead(s, w.path)
	case toList:
		return impl.VfsList(s, w.path)
	case toWrite:
		return impl.VfsWrite(s, w.path, w.data, w.time)
	case toMake:
		return impl.VfsMakeDir(s, w.path, w.time)
	case toDrop:
		return impl.VfsRemove(s, w.path)
	case toTouch:
		return impl.VfsTouch(s, w.path, w.time)
	case toGet:
		return impl.VfsHandle(s, w.id)
	case toPut:
		return impl.VfsPut(s, w.id, w.data, w.time)
	}
	return impl.VfsFlatter(s, w.path)
}

// wishesAt are all that may be asked of a path.
func wishesAt(path string) []wish {
	return append(changesAt(path), wish{verb: toRead, path: path}, wish{verb: toList, path: path}, wish{verb: toFlatten, path: path})
}

// changesAt are all that may be changed at a path.
func changesAt(path string) []wish {
	return []wish{{verb: toWrite, path: path, data: "new", time: 501}, {verb: toMake, path: path, time: 502}, {verb: toDrop, path: path}, {verb: toTouch, path: path, time: 503}}
}

// wishesOf are all that may be asked of a handle.
func wishesOf(id int64) []wish {
	return []wish{{verb: toGet, id: id}, {verb: toPut, id: id, data: "put", time: 504}}
}

// formCode is what chapter 1 and the first sentence of chapter 10 refuse.
func (w wish) formCode(s impl.Space) int64 {
	switch {
	case len(w.path) > 8000 || len(w.data) > 8000:
		return impl.ErrSize
	case !fits(s) || !impl.PathRight(w.path) || len(w.data) > 60 || w.time < 0 || w.time > 1000000:
		return impl.ErrForm
	}
	return impl.OK
}

// goal is where a wish leads: an instance and a path in it, or none.
func (w wish) goal(s impl.Space) (int64, string) {
	if w.verb != toGet && w.verb != toPut {
		top, rest := leads(s, w.path)
		return top.Inst, rest
	}
	for _, h := range s.Handles {
		if h.Id == w.id {
			return h.Inst, h.Path
		}
	}
	return 0, ""
}

// isBusy: does a mount forbid the change?
func (w wish) isBusy(s impl.Space) bool {
	return w.verb != toPut && slices.ContainsFunc(s.Mounts, func(m impl.Mount) bool {
		return m.Path == w.path || w.verb == toDrop && below(m.Path, w.path)
	})
}

// readIn is what chapter 10 says of a file, and of what is none.
func readIn(n []impl.Item, path string) impl.VfsOut {
	there := nodeOf(seenIn(n), path)
	switch {
	case path != "" && there.Path == "":
		return impl.VfsOut{Code: impl.ErrNone}
	case there.Kind != impl.KdFile:
		return impl.VfsOut{Code: impl.ErrDir}
	}
	return impl.VfsOut{Data: there.Data, Time: there.Time}
}

// listIn is what chapter 10 says of a directory, and of what is none.
func listIn(n []impl.Item, path string) impl.VfsOut {
	there := nodeOf(seenIn(n), path)
	switch {
	case path != "" && there.Path == "":
		return impl.VfsOut{Code: impl.ErrNone}
	case there.Kind == impl.KdFile:
		return impl.VfsOut{Code: impl.ErrFile}
	}
	return impl.VfsOut{Names: looked(n, seenIn(n), path).names}
}

// withNest is a Space in which an instance has that nest.
func withNest(s impl.Space, id int64, n []impl.Item) impl.Space {
	s.Insts = slices.Clone(s.Insts)
	for place := range s.Insts {
		if s.Insts[place].Id == id {
			s.Insts[place].Nest = n
		}
	}
	return s
}

// want is what chapter 10 says of a Space.
func (w wish) want(s impl.Space) impl.VfsOut {
	if code := w.formCode(s); code != impl.OK {
		return impl.VfsOut{Code: code}
	}
	id, path := w.goal(s)
	if id == 0 {
		return impl.VfsOut{Code: impl.ErrNone}
	}
	n := nestIn(s, id)
	made := impl.NestOut{Nest: flatOf(n)}
	switch w.verb {
	case toRead, toGet:
		return readIn(n, path)
	case toList:
		return listIn(n, path)
	case toFlatten:
		if made.Nest == nil {
			made.Code = impl.ErrState
		}
	case toPut:
		made = deed{toWrite, path, w.data, w.time}.wantNest(n, sightOf(n))
	default:
		if w.isBusy(s) {
			return impl.VfsOut{Code: impl.ErrBusy}
		}
		made = deed{w.verb, path, w.data, w.time}.wantNest(n, sightOf(n))
	}
	if made.Code != impl.OK {
		return impl.VfsOut{Code: made.Code}
	}
	return impl.VfsOut{Space: withNest(s, id, made.Nest)}
}

func sameVfsOut(a impl.VfsOut, b impl.VfsOut) bool {
	return a.Code == b.Code && a.Data == b.Data && a.Id == b.Id && a.Time == b.Time && slices.Equal(a.Names, b.Names) && sameSpace(a.Space, b.Space)
}

func shownVfs(out impl.VfsOut) string {
	return fmt.Sprintf("code %d, data %.100q, names %q, id %d, time %d%.3000s", out.Code, out.Data, out.Names, out.Id, out.Time, shownSpace(out.Space))
}

// vfsTells holds an answer against what is to be told, all of it.
func vfsTells(t *testing.T, what any, s impl.Space, got impl.VfsOut, want impl.VfsOut) {
	t.Helper()
	if !sameVfsOut(got, want) {
		t.Fatalf("%.300s: %s\nwant %s\nof%.3000s", fmt.Sprintf("%+v", what), shownVfs(got), shownVfs(want), shownSpace(s))
	}
}

// refusedVfs says that nothing but the code is told.
func refusedVfs(t *testing.T, what any, got impl.VfsOut, code int64) {
	t.Helper()
	vfsTells(t, what, impl.Space{}, got, impl.VfsOut{Code: code})
}

// layeredSpaces are right ones whose instances are nests of many layers, with mounts and handles wherever these may be.
func layeredSpaces(count int) []impl.Space {
	d := dice{state: 26}
	flat, others := thrownFlat(count), changedNests()
	all := []impl.Space{}
	for _, n := range flat {
		s := impl.Space{Insts: []impl.Instance{inst(1, n), inst(2, others[d.below(len(others))]), inst(3, flat[d.below(len(flat))]), inst(6, others[d.below(len(others))])}, Next: 9}
		s.Mounts = []impl.Mount{mounted("", int64(1+d.below(3)))}
		paths := pathsIn(nestIn(s, s.Mounts[0].Inst))
		if path := paths[1+d.below(len(paths)-1)]; path != "" {
			s.Mounts = append(s.Mounts, mounted(path, 6))
		}
		for id := int64(4); id < 9; id++ {
			one := s.Insts[d.below(len(s.Insts))]
			paths := pathsIn(one.Nest)
			s.Handles = append(s.Handles, handle(id, one.Id, paths[1+d.below(len(paths)-1)]))
		}
		all = append(all, used(s))
	}
	return all
}

// pathsToAsk are the paths of a Space, and new ones beside and below some of them.
func pathsToAsk(s impl.Space) []string {
	paths := append(pathsOfSpace(s), "new", "new/new")
	for place, path := range pathsOfSpace(s) {
		if place%3 == 1 && len(split(path)) < impl.MaxNames {
			paths = append(paths, strings.Join(append(split(path), "new"), "/"))
		}
	}
	slices.Sort(paths)
	return slices.Compact(paths)
}

// crowdedSpaces have an instance of which a View has no room for all.
func crowdedSpaces() []impl.Space {
	all := []impl.Space{}
	for _, n := range crowdedNests() {
		all = append(all, impl.Space{
			Insts:   []impl.Instance{inst(1, yard()), inst(2, n)},
			Mounts:  []impl.Mount{mounted("", 1), mounted("b", 2)},
			Handles: []impl.Handle{handle(3, 2, "z"), handle(4, 2, "f001"), handle(5, 2, "a/x000"), handle(6, 2, "a"), handle(7, 2, "q")},
			Next:    8,
		})
	}
	return all
}
