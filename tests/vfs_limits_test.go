package tests

import (
	"math"
	"slices"
	"strings"
	"testing"

	"loop.example/g00449/impl"
)

// unfitWishes are not right by what they would write, or by their time; they are as long as may be handed in.
func unfitWishes(path string, id int64) []wish {
	all := []wish{}
	for _, time := range []int64{math.MinInt64, -1, impl.MaxTime + 1, math.MaxInt64} {
		all = append(all, wish{verb: toWrite, path: path, time: time}, wish{verb: toMake, path: path, time: time}, wish{verb: toTouch, path: path, time: time}, wish{verb: toPut, id: id, time: time})
	}
	for _, data := range []string{allBytes(61), allBytes(impl.MaxBytes)} {
		all = append(all, wish{verb: toWrite, path: path, data: data, time: 1}, wish{verb: toPut, id: id, data: data, time: 1})
	}
	return all
}

// longWishes have a text that is longer than any that may be handed in.
func longWishes() []wish {
	all := slices.Concat(wishesAt(tooLong), wishesAt(strings.Repeat("/", impl.MaxBytes+1)))
	for _, time := range []int64{1, -1, impl.MaxTime + 1} {
		all = append(all, wish{verb: toMake, path: tooLong, time: time}, wish{verb: toTouch, path: tooLong, time: time}, wish{verb: toWrite, path: tooLong, time: time}, wish{verb: toWrite, path: tooLong, data: allBytes(61), time: time})
		for _, path := range []string{"", "a", "f", "q", "A", tooLong} {
			all = append(all, wish{verb: toWrite, path: path, data: tooLong, time: time})
		}
		for _, id := range []int64{-1, 0, 6, 12} {
			all = append(all, wish{verb: toPut, id: id, data: tooLong, time: time})
		}
	}
	return all
}

// A wrong Space is refused ahead of all that is asked of it; but what is too long is refused ahead of that.
func TestVfsOfWrongSpaces(t *testing.T) {
	long := longWishes()
	for what, s := range wrongSpaces() {
		all := slices.Concat(wishesAt(""), wishesAt("a"), wishesAt("a/b/a/x"), wishesAt("q"), wishesAt("A"), wishesOf(6), wishesOf(99), wishesOf(-1), unfitWishes("f", 6))
		for _, w := range all {
			refusedVfs(t, w.verb+" of "+what, w.do(s), impl.ErrForm)
		}
		for _, w := range long[:20] {
			refusedVfs(t, w.verb+" too long, of "+what, w.do(s), impl.ErrSize)
		}
	}
	for _, w := range long {
		for _, s := range []impl.Space{furnished(), {}, filled(impl.MaxMounts+1, 0)} {
			refusedVfs(t, w.verb+" too long", w.do(s), impl.ErrSize)
		}
	}
}

func TestVfsOfWrongPaths(t *testing.T) {
	for _, s := range []impl.Space{furnished(), rooted(leaf()), crowdedSpaces()[0]} {
		for _, path := range wrongPaths() {
			code := int64(impl.ErrForm)
			if len(path) > impl.MaxBytes {
				code = impl.ErrSize
			}
			for _, w := range wishesAt(path) {
				refusedVfs(t, w.verb+" "+path, w.do(s), code)
			}
		}
	}
}

// Data and times that may not be are refused wherever they are to be, ahead of all that is there: a mount, nothing, or
// a nest without room.
func TestVfsRefusesDataAndTime(t *testing.T) {
	for _, s := range []impl.Space{furnished(), crowdedSpaces()[0], crowdedSpaces()[1]} {
		for _, path := range []string{"", "a", "a/b", "b", "f", "g", "q", "q/q", "f/q", "b/z", "b/new", "a/b/a/x", "A"} {
			for _, id := range []int64{-1, 0, 3, 6, 7, 12} {
				for _, w := range unfitWishes(path, id) {
					refusedVfs(t, w.verb+" "+path, w.do(s), impl.ErrForm)
				}
			}
		}
	}
}

// What may just be is taken.
func TestVfsTakesWhatMayBe(t *testing.T) {
	s := furnished()
	for _, time := range []int64{0, 1, impl.MaxTime - 1, impl.MaxTime} {
		for _, data := range []string{"", allBytes(1), allBytes(60)} {
			want := impl.VfsOut{Space: withNest(s, 3, deskWith(dir("a", 1, 0), file("a/x", data, time)))}
			written := impl.VfsWrite(s, "a/b/a/x", data, time)
			vfsTells(t, "written", s, written, want)
			vfsTells(t, "put", s, impl.VfsPut(s, 6, data, time), want)
			vfsTells(t, "read", s, impl.VfsRead(written.Space, "a/b/a/x"), toldFile(data, time))
			put := impl.VfsPut(s, 7, data, time)
			vfsTells(t, "put", s, put, impl.VfsOut{Space: withNest(s, 5, leaf(file("x", data, time)))})
			vfsTells(t, "put", s, impl.VfsHandle(put.Space, 10), toldFile(data, time))
		}
		vfsTells(t, "made", s, impl.VfsMakeDir(s, "b/d", time), impl.VfsOut{Space: withNest(s, 9, deskWith(dir("d", time, 2)))})
		vfsTells(t, "touched", s, impl.VfsTouch(s, "b/a", time), impl.VfsOut{Space: withNest(s, 9, deskWith(dir("a", time, 0)))})
	}
}

// A text of MaxBytes bytes is looked at, and is neither a path nor data; one more is refused for that alone.
func TestVfsTextLimits(t *testing.T) {
	for size, code := range map[int]int64{impl.MaxBytes: impl.ErrForm, impl.MaxBytes + 1: impl.ErrSize} {
		text := strings.Repeat("a", size)
		for _, s := range []impl.Space{furnished(), rooted(leaf()), {}} {
			for _, w := range append(wishesAt(text), wish{verb: toWrite, path: "f", data: text, time: 1}, wish{verb: toWrite, path: "", data: text, time: 1}, wish{verb: toPut, id: 6, data: text, time: 1}, wish{verb: toPut, id: 99, data: text, time: 1}) {
				refusedVfs(t, w.verb, w.do(s), code)
			}
		}
		// In a field such a text is but no path, or no data.
		for _, turn := range []func(s *impl.Space){
			func(s *impl.Space) { s.Mounts[1].Path = text }, func(s *impl.Space) { s.Handles[1].Path = text }, func(s *impl.Space) { s.Insts[0].Nest = leaf(file("f", text, 1)) },
		} {
			s := turned(furnished(), turn)
			for _, w := range append(wishesAt("f"), wishesOf(6)...) {
				refusedVfs(t, w.verb, w.do(s), impl.ErrForm)
			}
		}
	}
}

// No call takes a number, so that the last one is no limit; nor are as many mounts and handles as may be.
func TestVfsNeedsNoNumber(t *testing.T) {
	late := furnished()
	late.Next = impl.MaxTime
	for _, s := range []impl.Space{late, furnished()} {
		for _, w := range append(slices.Concat(changesAt("a/b/a/x"), changesAt("c/new"), wishesAt("b")), wishesOf(7)...) {
			vfsTells(t, w, s, w.do(s), w.want(s))
			if got := w.do(s); got.Code == impl.OK && len(got.Space.Insts) > 0 && got.Space.Next != s.Next {
				t.Errorf("%+v: Next is %d, was %d", w, got.Space.Next, s.Next)
			}
		}
	}
	full := filled(impl.MaxMounts, impl.MaxOpen)
	vfsTells(t, "full", full, impl.VfsWrite(full, "a/b/new", "n", 1), impl.VfsOut{Space: withNest(full, 3, leafOf(put(yard()[0].Tree, file("new", "n", 1)).Tree))})
	vfsTells(t, "full", full, impl.VfsHandle(full, 12), toldFile("", 12))
}

// In a nest without room for its Sight each path is read and listed still, and nothing is changed, but by being flatter.
func TestVfsOfCrowdedNests(t *testing.T) {
	t.Parallel()
	read, listed := 0, 0
	for _, s := range crowdedSpaces() {
		for _, path := range []string{"b", "b/a", "b/z", "b/f001", "b/a/own", "b/a/x000", "b/new", "b/q/q", "a/x", "f"} {
			for _, w := range wishesAt(path) {
				got := w.do(s)
				vfsTells(t, w, s, got, w.want(s))
				switch {
				case w.verb == toRead && got.Code == impl.OK:
					read++
				case w.verb == toList && got.Code == impl.OK:
					listed++
				case w.verb != toFlatten && w.verb != toRead && w.verb != toList && below(path, "b"):
					refusedVfs(t, w, got, impl.ErrFull)
				}
			}
		}
		for id := int64(3); id < 8; id++ {
			vfsTells(t, id, s, impl.VfsHandle(s, id), wish{verb: toGet, id: id}.want(s))
			refusedVfs(t, id, impl.VfsPut(s, id, "", 1), impl.ErrFull)
		}
	}
	if read < 15 || listed < 15 {
		t.Errorf("only %d were read, and %d listed", read, listed)
	}
}

// A full leaf takes no more, by a path or by a handle.
func TestVfsByCountOfNodes(t *testing.T) {
	for count, code := range map[int]int64{impl.MaxNodes - 1: impl.OK, impl.MaxNodes: impl.ErrFull} {
		s := impl.Space{Insts: []impl.Instance{inst(1, leaf()), inst(2, leafOf(numbered("f", count)))}, Mounts: []impl.Mount{mounted("", 1), mounted("m", 2)}, Handles: []impl.Handle{handle(3, 2, "new")}, Next: 4}
		for _, w := range []wish{{verb: toWrite, path: "m/new"}, {verb: toMake, path: "m/new"}, {verb: toPut, id: 3}} {
			vfsTells(t, w, s, w.do(s), w.want(s))
			if got := w.do(s); got.Code != code {
				t.Errorf("%+v with %d nodes tells %d, want %d", w, count, got.Code, code)
			}
		}
		for _, w := range changesAt("m/f001") {
			vfsTells(t, w, s, w.do(s), w.want(s))
		}
	}
}

// All that may be asked, of many spaces, at all their paths and handles.
func TestVfsAgainstTheWordsOfTheDocument(t *testing.T) {
	t.Parallel()
	codes := map[string]map[int64]int{}
	for _, w := range append(wishesAt(""), wishesOf(0)...) {
		codes[w.verb] = map[int64]int{}
	}
	for _, s := range slices.Concat(oddSpaces(), thrownSpaces(30), layeredSpaces(60)) {
		wishes := []wish{}
		for _, path := range pathsToAsk(s) {
			wishes = append(wishes, wishesAt(path)...)
		}
		for id := int64(-1); id <= min(s.Next, 20); id++ {
			wishes = append(wishes, wishesOf(id)...)
		}
		for _, w := range wishes {
			want := w.want(s)
			vfsTells(t, w, s, w.do(s), want)
			codes[w.verb][want.Code]++
			if len(want.Space.Insts) > 0 && !impl.SpaceRight(want.Space) {
				t.Fatalf("%+v leaves what is not right%s", w, shownSpace(want.Space))
			}
		}
	}
	for verb, most := range map[string][]int64{
		toRead: {impl.OK, impl.ErrNone, impl.ErrDir}, toList: {impl.OK, impl.ErrNone, impl.ErrFile}, toFlatten: {impl.OK, impl.ErrState},
		toWrite: {impl.OK, impl.ErrBusy, impl.ErrNone, impl.ErrFile, impl.ErrDir, impl.ErrFull}, toMake: {impl.OK, impl.ErrBusy, impl.ErrNone, impl.ErrFile, impl.ErrThere, impl.ErrFull},
		toDrop: {impl.OK, impl.ErrBusy, impl.ErrNone, impl.ErrState, impl.ErrFull}, toTouch: {impl.OK, impl.ErrBusy, impl.ErrNone, impl.ErrFull},
		toGet: {impl.OK, impl.ErrNone, impl.ErrDir}, toPut: {impl.OK, impl.ErrNone, impl.ErrDir},
	} {
		for _, code := range most {
			if codes[verb][code] < 10 {
				t.Errorf("%s: code %d came %d times", verb, code, codes[verb][code])
			}
		}
	}
}
