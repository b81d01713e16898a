package tests

import (
	"math"
	"slices"
	"strings"
	"testing"

	"loop.example/g00449/impl"
)

func TestSpaceNew(t *testing.T) {
	for _, n := range append(someNests(), crowdedNests()...) {
		answers(t, "new", rooted(n), impl.SpaceNew(n), impl.SpaceOut{Space: rooted(n)})
	}
	for _, n := range wrongNests() {
		refusedSpace(t, shownNest(n), impl.SpaceNew(n), impl.ErrForm)
	}
	for _, n := range longLists() {
		refusedSpace(t, len(n), impl.SpaceNew(n), impl.ErrSize)
	}
	for count, code := range map[int]int64{impl.MaxItems + 1: impl.ErrForm, impl.MaxList: impl.ErrForm, impl.MaxList + 1: impl.ErrSize} {
		n := slices.Repeat(leaf(dir("a", 1, 0)), count)
		refusedSpace(t, count, impl.SpaceNew(n), code)
		refusedSpace(t, count, impl.MountOn(rooted(yard()), "a", n), code)
		refusedSpace(t, count, impl.MountOn(rooted(yard()), "", n), code)
	}
}

func TestWhereKnown(t *testing.T) {
	s := furnished()
	for _, k := range []struct {
		path string
		id   int64
		rest string
	}{
		{"", 1, ""}, {"f", 1, "f"}, {"q", 1, "q"}, {"q/r/s", 1, "q/r/s"}, {"a", 4, ""}, {"a/x", 4, "x"}, {"a/bb", 4, "bb"}, {"a/c/b", 4, "c/b"},
		{"a/b", 3, ""}, {"a/b/a/x", 3, "a/x"}, {"a/b/b", 3, "b"}, {"a/b/c/d/e/f", 3, "c/d/e/f"}, {"b", 9, ""}, {"b/a", 9, "a"}, {"bb", 1, "bb"}, {"aa/b", 1, "aa/b"}, {longPath, 1, longPath},
	} {
		answers(t, k.path, s, impl.Where(s, k.path), impl.SpaceOut{Space: s, Id: k.id, Path: k.rest})
	}
	for _, path := range wrongPaths() {
		want := int64(impl.ErrForm)
		if len(path) > impl.MaxBytes {
			want = impl.ErrSize
		}
		for verb, got := range callsOf(s, path, impl.DeskNest(), 6) {
			if verb != toClose {
				refusedSpace(t, verb+" "+path, got, want)
			}
		}
	}
}

func TestHeldAndNestOfKnown(t *testing.T) {
	s := furnished()
	for id, want := range map[int64]int64{1: 2, 3: 2, 4: 1, 5: 2, 9: 1, 0: 0, 2: 0, 6: 0, 7: 0, 10: 0, 11: 0, 12: 0, -1: 0, math.MinInt64: 0, math.MaxInt64: 0, impl.MaxTime: 0} {
		if got := impl.Held(s, id); got != want {
			t.Errorf("%d is held %d times, want %d", id, got, want)
		}
		n := nestIn(s, id)
		if want == 0 {
			refusedNest(t, id, impl.NestOf(s, id), impl.ErrNone)
		} else if got := impl.NestOf(s, id); got.Code != impl.OK || !sameNest(got.Nest, n) {
			t.Errorf("the nest of %d is %d%s", id, got.Code, shownNest(got.Nest))
		}
	}
}

func TestMountOnKnown(t *testing.T) {
	s := furnished()
	n := leaf(file("new", "data", 1))
	more := impl.MountOn(s, "a/b/a", n)
	answers(t, "under two others", s, more, impl.SpaceOut{Id: 12, Space: impl.Space{
		Insts:   append(slices.Clone(s.Insts), inst(12, n)),
		Mounts:  []impl.Mount{mounted("", 1), mounted("a", 4), mounted("a/b", 3), mounted("a/b/a", 12), mounted("b", 9)},
		Handles: s.Handles, Next: 13,
	}})
	answers(t, "at the end", more.Space, impl.MountOn(more.Space, "c", n), impl.SpaceOut{Id: 13, Space: impl.Space{
		Insts:   append(slices.Clone(s.Insts), inst(12, n), inst(13, n)),
		Mounts:  []impl.Mount{mounted("", 1), mounted("a", 4), mounted("a/b", 3), mounted("a/b/a", 12), mounted("b", 9), mounted("c", 13)},
		Handles: s.Handles, Next: 14,
	}})
	for path, code := range map[string]int64{
		"": impl.ErrThere, "a": impl.ErrThere, "a/b": impl.ErrThere, "b": impl.ErrThere,
		"q": impl.ErrNone, "a/q": impl.ErrNone, "f/q": impl.ErrNone, "c/a": impl.ErrNone, "b/b": impl.ErrNone, "a/b/c": impl.ErrNone, "a/b/b": impl.ErrNone,
		"f": impl.ErrFile, "g/f": impl.ErrFile, "a/f": impl.ErrFile, "a/g/f": impl.ErrFile, "a/b/a/x": impl.ErrFile, "b/a/y": impl.ErrFile,
		"a/a": impl.OK, "a/a/b": impl.OK, "b/a": impl.OK, "c": impl.OK, "g": impl.OK,
	} {
		if got := impl.MountOn(s, path, n); got.Code != code {
			t.Errorf("MountOn %q tells %d, want %d", path, got.Code, code)
		} else if code != impl.OK {
			refusedSpace(t, path, got, code)
		}
		refusedSpace(t, path+" of a wrong nest", impl.MountOn(s, path, items(1)), impl.ErrForm)
	}
}

// Each fault is named ahead of the next one.
func TestMountOnOrderOfFaults(t *testing.T) {
	full, late := filled(impl.MaxMounts, 0), rooted(yard())
	late.Next = impl.MaxTime
	for _, s := range []impl.Space{full, late} {
		refusedSpace(t, "there", impl.MountOn(s, "", yard()), impl.ErrThere)
		refusedSpace(t, "nothing there", impl.MountOn(s, "q", yard()), impl.ErrNone)
		refusedSpace(t, "a file", impl.MountOn(s, "f", yard()), impl.ErrFile)
		refusedSpace(t, "no room", impl.MountOn(s, "g", yard()), impl.ErrFull)
		refusedSpace(t, "no room, but a wrong nest", impl.MountOn(s, "g", nil), impl.ErrForm)
		refusedSpace(t, "no room, but a wrong path", impl.MountOn(s, "g/", yard()), impl.ErrForm)
		refusedSpace(t, "not there, but a wrong nest", impl.MountOn(s, "q", nil), impl.ErrForm)
		refusedSpace(t, "a long path", impl.MountOn(s, tooLong, nil), impl.ErrSize)
		refusedSpace(t, "a long list", impl.MountOn(s, "g/", make([]impl.Item, impl.MaxList+1)), impl.ErrSize)
	}
	// What is mounted hides what is there below it, a file too.
	lost := impl.Space{Insts: []impl.Instance{inst(1, leaf(file("f", "", 1))), inst(2, yard())}, Mounts: []impl.Mount{mounted("", 1), mounted("f", 2)}, Next: 3}
	refusedSpace(t, "at a file's mount", impl.MountOn(lost, "f", yard()), impl.ErrThere)
	refusedSpace(t, "at a file in it", impl.MountOn(lost, "f/f", yard()), impl.ErrFile)
	if got := impl.MountOn(lost, "f/a", yard()); got.Id != 3 || got.Code != impl.OK {
		t.Errorf("under a file's mount: %d, %d", got.Id, got.Code)
	}
}

func TestUnmountAndDetachKnown(t *testing.T) {
	s := furnished()
	for path, code := range map[string]int64{"": impl.ErrForm, "a": impl.ErrBusy, "a/b": impl.ErrBusy, "b": impl.OK, "c": impl.ErrNone, "f": impl.ErrNone, "q": impl.ErrNone, "a/x": impl.ErrNone, "a/b/a": impl.ErrNone, "b/a": impl.ErrNone, "bb": impl.ErrNone} {
		if got := impl.Unmount(s, path); got.Code != code {
			t.Errorf("Unmount %q tells %d, want %d", path, got.Code, code)
		}
		if code == impl.ErrBusy {
			code = impl.OK
		}
		if got := impl.Detach(s, path); got.Code != code {
			t.Errorf("Detach %q tells %d, want %d", path, got.Code, code)
		}
	}
	left := impl.Space{Insts: s.Insts[:4], Mounts: s.Mounts[:3], Handles: s.Handles, Next: 12}
	answers(t, "b goes", s, impl.Unmount(s, "b"), impl.SpaceOut{Space: left})
	answers(t, "b goes", s, impl.Detach(s, "b"), impl.SpaceOut{Space: left})
	// The instance of a goes; that of a/b has a handle.
	kept := impl.Space{Insts: slices.Delete(slices.Clone(s.Insts), 2, 3), Mounts: []impl.Mount{mounted("", 1), mounted("b", 9)}, Handles: s.Handles, Next: 12}
	answers(t, "a goes with a/b", s, impl.Detach(s, "a"), impl.SpaceOut{Space: kept})
	inner := impl.Space{Insts: s.Insts, Mounts: slices.Delete(slices.Clone(s.Mounts), 2, 3), Handles: s.Handles, Next: 12}
	answers(t, "a/b goes", s, impl.Detach(s, "a/b"), impl.SpaceOut{Space: inner})
	// A mount whose name another one begins with is not under it.
	beside := impl.Space{Insts: []impl.Instance{inst(1, leaf()), inst(2, leaf()), inst(3, leaf())}, Mounts: []impl.Mount{mounted("", 1), mounted("a", 2), mounted("ab", 3)}, Next: 4}
	without := impl.Space{Insts: []impl.Instance{inst(1, leaf()), inst(3, leaf())}, Mounts: []impl.Mount{mounted("", 1), mounted("ab", 3)}, Next: 4}
	answers(t, "beside", beside, impl.Unmount(beside, "a"), impl.SpaceOut{Space: without})
	answers(t, "beside", beside, impl.Detach(beside, "a"), impl.SpaceOut{Space: without})
}

// A mount is busy by another one under it, and by a handle of its own instance, and by nothing else.
func TestUnmountOfWhatIsInUse(t *testing.T) {
	three := impl.Space{Insts: []impl.Instance{inst(1, yard()), inst(2, yard()), inst(3, yard()), inst(4, yard())}, Mounts: []impl.Mount{mounted("", 1), mounted("a", 2), mounted("a/b/c", 3), mounted("b", 4)}, Next: 5}
	refusedSpace(t, "another one far under it", impl.Unmount(three, "a"), impl.ErrBusy)
	for _, path := range []string{"a/b/c", "b"} {
		if got := impl.Unmount(three, path); got.Code != impl.OK {
			t.Errorf("Unmount %q tells %d", path, got.Code)
		}
	}
	opened := impl.Open(three, "a/b/c/f").Space
	refusedSpace(t, "a handle", impl.Unmount(opened, "a/b/c"), impl.ErrBusy)
	refusedSpace(t, "no mount there", impl.Unmount(opened, "a/b/c/f"), impl.ErrNone)
	if got := impl.Unmount(opened, "b"); got.Code != impl.OK {
		t.Errorf("a handle elsewhere: %d", got.Code)
	}
	if got := impl.Unmount(impl.Unmount(impl.Close(opened, 5).Space, "a/b/c").Space, "a"); got.Code != impl.OK || len(got.Space.Mounts) != 2 || len(got.Space.Insts) != 2 {
		t.Errorf("one after the other: %d%s", got.Code, shownSpace(got.Space))
	}
	// A handle of the instance above is none of its own.
	above := impl.Open(three, "f").Space
	if got := impl.Unmount(above, "b"); got.Code != impl.OK {
		t.Errorf("a handle above: %d", got.Code)
	}
}

func TestOpenAndCloseKnown(t *testing.T) {
	s := furnished()
	more := impl.Open(s, "a/b/a/y")
	answers(t, "opened", s, more, impl.SpaceOut{Id: 12, Space: impl.Space{Insts: s.Insts, Mounts: s.Mounts, Handles: append(slices.Clone(s.Handles), handle(12, 3, "a/y")), Next: 13}})
	answers(t, "once more", more.Space, impl.Open(more.Space, "f"), impl.SpaceOut{Id: 13, Space: impl.Space{Insts: s.Insts, Mounts: s.Mounts, Handles: append(slices.Clone(s.Handles), handle(12, 3, "a/y"), handle(13, 1, "f")), Next: 14}})
	for path, code := range map[string]int64{
		"": impl.ErrNone, "a": impl.ErrNone, "a/b": impl.ErrNone, "b": impl.ErrNone, "q": impl.ErrNone, "f/q": impl.ErrNone, "a/b/f": impl.ErrNone, "b/f": impl.ErrNone, "a/q": impl.ErrNone,
		"c": impl.ErrDir, "g": impl.ErrDir, "a/a": impl.ErrDir, "a/a/b/c": impl.ErrDir, "a/b/a": impl.ErrDir, "b/a": impl.ErrDir,
		"f": impl.OK, "g/f": impl.OK, "a/f": impl.OK, "a/a/x": impl.OK, "b/a/x": impl.OK,
	} {
		if got := impl.Open(s, path); got.Code != code {
			t.Errorf("Open %q tells %d, want %d", path, got.Code, code)
		} else if code != impl.OK {
			refusedSpace(t, path, got, code)
		}
	}
	for _, id := range []int64{-1, 0, 1, 2, 3, 5, 8, 9, 12, 13, math.MaxInt64, math.MinInt64} {
		refusedSpace(t, id, impl.Close(s, id), impl.ErrNone)
	}
	without := impl.Space{Insts: s.Insts, Mounts: s.Mounts, Handles: []impl.Handle{handle(6, 3, "a/x"), handle(10, 5, "x"), handle(11, 1, "f")}, Next: 12}
	answers(t, "one of two", s, impl.Close(s, 7), impl.SpaceOut{Space: without})
	last := impl.Space{Insts: slices.Delete(slices.Clone(s.Insts), 3, 4), Mounts: s.Mounts, Handles: []impl.Handle{handle(6, 3, "a/x"), handle(11, 1, "f")}, Next: 12}
	answers(t, "the last one", without, impl.Close(without, 10), impl.SpaceOut{Space: last})
}

func TestOpenOrderOfFaults(t *testing.T) {
	full, late := filled(1, impl.MaxOpen), rooted(yard())
	late.Next = impl.MaxTime
	for _, s := range []impl.Space{full, late} {
		refusedSpace(t, "the root", impl.Open(s, ""), impl.ErrNone)
		refusedSpace(t, "nothing there", impl.Open(s, "q"), impl.ErrNone)
		refusedSpace(t, "a directory", impl.Open(s, "a"), impl.ErrDir)
		refusedSpace(t, "no room", impl.Open(s, "f"), impl.ErrFull)
		refusedSpace(t, "no room, but a wrong path", impl.Open(s, "f/"), impl.ErrForm)
		refusedSpace(t, "too long", impl.Open(s, tooLong), impl.ErrSize)
	}
}

// Just as many mounts and handles as may be, and one more.
func TestMountsAndHandlesByCount(t *testing.T) {
	s := rooted(yard())
	for number, path := range []string{"e", "a", "a/b", "g", "c", "b"} {
		got := impl.MountOn(s, path, yard())
		if number == impl.MaxMounts-1 {
			refusedSpace(t, path, got, impl.ErrFull)
			break
		}
		answers(t, path, s, got, act{verb: toMount, path: path, n: yard()}.want(s))
		s = got.Space
	}
	for number, path := range []string{"f", "a/f", "a/b/f", "e/a/x", "c/g/f", "f", "g/f"} {
		got := impl.Open(s, path)
		if number == impl.MaxOpen {
			refusedSpace(t, path, got, impl.ErrFull)
			break
		}
		answers(t, path, s, got, act{verb: toOpen, path: path}.want(s))
		s = got.Space
	}
	if len(s.Mounts) != impl.MaxMounts || len(s.Handles) != impl.MaxOpen || !impl.SpaceRight(s) {
		t.Fatalf("it is not full:%s", shownSpace(s))
	}
	// What goes leaves room for one more; numbers are not taken again.
	next := s.Next
	s = impl.Close(s, s.Handles[0].Id).Space
	if got := impl.Open(s, "f"); got.Code != impl.OK || got.Id != next {
		t.Errorf("opened again: %d, %d", got.Code, got.Id)
	}
	s = impl.Detach(s, "a").Space
	if got := impl.MountOn(s, "b", yard()); got.Code != impl.OK || got.Id != next {
		t.Errorf("mounted again: %d, %d", got.Code, got.Id)
	}
}

// As many instances as may be: each mount was detached while it had a handle, and another one is there then.
func TestAsManyInstancesAsMayBe(t *testing.T) {
	s := rooted(yard())
	for range impl.MaxOpen {
		s = impl.Detach(impl.Open(impl.MountOn(s, "a", yard()).Space, "a/f").Space, "a").Space
	}
	for _, path := range []string{"a", "b", "c", "d", "e"} {
		s = impl.MountOn(s, path, yard()).Space
	}
	if len(s.Insts) != impl.MaxMounts+impl.MaxOpen || !impl.SpaceRight(s) {
		t.Fatalf("it is not full:%s", shownSpace(s))
	}
	refusedSpace(t, "one more", impl.MountOn(s, "g", yard()), impl.ErrFull)
	refusedSpace(t, "one more", impl.Open(s, "f"), impl.ErrFull)
	for _, h := range slices.Backward(s.Handles) {
		s = impl.Close(s, h.Id).Space
	}
	if len(s.Insts) != impl.MaxMounts {
		t.Errorf("%d instances are left", len(s.Insts))
	}
}

// The last number is taken, and then no more.
func TestNumbersEnd(t *testing.T) {
	s := rooted(yard())
	s.Next = impl.MaxTime - 2
	one := impl.MountOn(s, "a", yard())
	two := impl.Open(one.Space, "a/f")
	if one.Id != impl.MaxTime-2 || two.Id != impl.MaxTime-1 || two.Space.Next != impl.MaxTime {
		t.Fatalf("numbers are %d and %d, then %d", one.Id, two.Id, two.Space.Next)
	}
	refusedSpace(t, "no number to mount", impl.MountOn(two.Space, "b", yard()), impl.ErrFull)
	refusedSpace(t, "no number to open", impl.Open(two.Space, "f"), impl.ErrFull)
	left := impl.Close(impl.Detach(two.Space, "a").Space, impl.MaxTime-1)
	want := rooted(yard())
	want.Next = impl.MaxTime
	answers(t, "all of it goes", two.Space, left, impl.SpaceOut{Space: want})
}

// Where nothing is in the way but a Sight without room, Walk still tells what is there.
func TestMountsInCrowdedNests(t *testing.T) {
	for _, n := range crowdedNests() {
		s := rooted(n)
		for _, path := range []string{"a", "z", "f001", "a/own", "a/x000", "new"} {
			for _, a := range actsAt(path) {
				answers(t, a.verb+" "+path, s, a.do(s), a.want(s))
			}
		}
	}
}

func TestCallsOfManySpaces(t *testing.T) {
	t.Parallel()
	codes := map[string]map[int64]int{}
	for _, verb := range []string{toMount, toLeave, toDetach, toOpen, toClose, toAsk} {
		codes[verb] = map[int64]int{}
	}
	for _, s := range someSpaces() {
		acts := []act{}
		for _, path := range pathsOfSpace(s) {
			acts = append(acts, actsAt(path)...)
		}
		for id := int64(-1); id <= min(s.Next+1, 60); id++ {
			acts = append(acts, act{verb: toClose, id: id})
			held := int64(len(slices.DeleteFunc(heldIn(s), func(one int64) bool { return one != id })))
			if got := impl.Held(s, id); got != held {
				t.Fatalf("%d is held %d times, want %d, of%s", id, got, held, shownSpace(s))
			}
			if got := impl.NestOf(s, id); held > 0 && (got.Code != impl.OK || !sameNest(got.Nest, nestIn(s, id))) || held == 0 && (got.Code != impl.ErrNone || len(got.Nest) > 0) {
				t.Fatalf("the nest of %d is %d%s\nof%s", id, got.Code, shownNest(got.Nest), shownSpace(s))
			}
		}
		for _, a := range acts {
			want := a.want(s)
			answers(t, a, s, a.do(s), want)
			codes[a.verb][want.Code]++
			if want.Code == impl.OK && !impl.SpaceRight(want.Space) {
				t.Fatalf("%+v leaves what is not right%s", a, shownSpace(want.Space))
			}
		}
	}
	for verb, most := range map[string][]int64{toMount: {impl.OK, impl.ErrThere, impl.ErrNone, impl.ErrFile, impl.ErrFull}, toLeave: {impl.OK, impl.ErrForm, impl.ErrNone, impl.ErrBusy}, toDetach: {impl.OK, impl.ErrForm, impl.ErrNone}, toOpen: {impl.OK, impl.ErrNone, impl.ErrDir, impl.ErrFull}, toClose: {impl.OK, impl.ErrNone}, toAsk: {impl.OK}} {
		for _, code := range most {
			if codes[verb][code] < 20 {
				t.Errorf("%s: code %d came %d times", verb, code, codes[verb][code])
			}
		}
	}
}

// A text of MaxBytes bytes is looked at, and is no path; one more is refused.
func TestMountTextLimits(t *testing.T) {
	for size, code := range map[int]int64{impl.MaxBytes: impl.ErrForm, impl.MaxBytes + 1: impl.ErrSize} {
		for _, s := range []impl.Space{furnished(), rooted(leaf()), {}} {
			for verb, got := range callsOf(s, strings.Repeat("a", size), yard(), 6) {
				if verb != toClose {
					refusedSpace(t, verb, got, code)
				}
			}
		}
		// In a field such a text is but no path.
		refusedSpace(t, "in a mount", impl.Where(turned(furnished(), func(s *impl.Space) { s.Mounts[1].Path = strings.Repeat("a", size) }), ""), impl.ErrForm)
		refusedSpace(t, "in a handle", impl.Close(turned(furnished(), func(s *impl.Space) { s.Handles[1].Path = strings.Repeat("a", size) }), 6), impl.ErrForm)
	}
}
