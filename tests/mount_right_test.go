package tests

import (
	"math"
	"slices"
	"strings"
	"testing"

	"loop.example/g00449/impl"
)

// turned is a Space with something else in it.
func turned(s impl.Space, turn func(s *impl.Space)) impl.Space {
	other := copyOfSpace(s)
	turn(&other)
	return other
}

// wrongSpaces are not right, each for a reason of its own.
func wrongSpaces() map[string]impl.Space {
	ground := furnished()
	with := func(turn func(s *impl.Space)) impl.Space { return turned(ground, turn) }
	all := map[string]impl.Space{
		"nothing":                         {},
		"Next alone":                      {Next: 2},
		"Next 1":                          turned(rooted(yard()), func(s *impl.Space) { s.Next = 1 }),
		"Next 0":                          turned(rooted(yard()), func(s *impl.Space) { s.Next = 0 }),
		"Next below 0":                    with(func(s *impl.Space) { s.Next = -1 }),
		"Next far below 0":                with(func(s *impl.Space) { s.Next = math.MinInt64 }),
		"Next beyond MaxTime":             with(func(s *impl.Space) { s.Next = impl.MaxTime + 1 }),
		"Next far beyond MaxTime":         with(func(s *impl.Space) { s.Next = math.MaxInt64 }),
		"Next of the last handle":         with(func(s *impl.Space) { s.Next = 11 }),
		"an Inst of Next":                 with(func(s *impl.Space) { s.Insts[4].Id, s.Mounts[3].Inst = 12, 12 }),
		"an Inst 0":                       with(func(s *impl.Space) { s.Insts[0].Id, s.Mounts[0].Inst, s.Handles[3].Inst = 0, 0, 0 }),
		"an Inst below 0":                 with(func(s *impl.Space) { s.Insts[0].Id, s.Mounts[0].Inst, s.Handles[3].Inst = -1, -1, -1 }),
		"Insts that fall":                 with(func(s *impl.Space) { s.Insts[1], s.Insts[2] = s.Insts[2], s.Insts[1] }),
		"two Insts alike":                 with(func(s *impl.Space) { s.Insts = slices.Insert(s.Insts, 1, inst(1, yard())) }),
		"an Inst without a nest":          with(func(s *impl.Space) { s.Insts[3].Nest = nil }),
		"an Inst that nothing has":        with(func(s *impl.Space) { s.Insts = slices.Insert(s.Insts, 1, inst(2, yard())) }),
		"an Inst that nothing has at end": with(func(s *impl.Space) { s.Insts = append(s.Insts, inst(11, yard())) }),
		"no Mount":                        with(func(s *impl.Space) { s.Mounts = nil }),
		"no Mount, but a Handle":          {Insts: []impl.Instance{inst(1, yard())}, Handles: []impl.Handle{handle(1, 1, "f")}, Next: 2},
		"no root":                         turned(rooted(yard()), func(s *impl.Space) { s.Mounts[0].Path = "a" }),
		"the root is not first":           with(func(s *impl.Space) { s.Mounts[0], s.Mounts[1] = s.Mounts[1], s.Mounts[0] }),
		"two roots":                       with(func(s *impl.Space) { s.Mounts[1].Path = "" }),
		"Mounts that fall":                with(func(s *impl.Space) { s.Mounts[2], s.Mounts[3] = s.Mounts[3], s.Mounts[2] }),
		"Mounts of one Path":              with(func(s *impl.Space) { s.Mounts[2].Path = "a" }),
		"Mounts that are one and the same": with(func(s *impl.Space) {
			s.Mounts[2] = s.Mounts[1]
			s.Handles[0].Inst = 3
		}),
		"a Lazy Mount":             with(func(s *impl.Space) { s.Mounts[2].Lazy = true }),
		"a Lazy root":              with(func(s *impl.Space) { s.Mounts[0].Lazy = true }),
		"two Mounts of one Inst":   with(func(s *impl.Space) { s.Mounts = append(s.Mounts, mounted("c", 9)) }),
		"the root and one of Inst": with(func(s *impl.Space) { s.Mounts = append(s.Mounts, mounted("c", 1)) }),
		"a Mount of no Inst":       with(func(s *impl.Space) { s.Mounts = append(s.Mounts, mounted("c", 2)) }),
		"a Mount of Inst 0":        with(func(s *impl.Space) { s.Mounts = append(s.Mounts, mounted("c", 0)) }),
		"a Mount of a Handle":      with(func(s *impl.Space) { s.Mounts = append(s.Mounts, mounted("c", 6)) }),
		"the root of no Inst":      with(func(s *impl.Space) { s.Mounts[0].Inst = 8 }),
		"a Handle 0":               with(func(s *impl.Space) { s.Handles[0].Id = 0 }),
		"a Handle below 0":         with(func(s *impl.Space) { s.Handles[0].Id = -6 }),
		"a Handle of Next":         with(func(s *impl.Space) { s.Handles[3].Id = 12 }),
		"Handles that fall":        with(func(s *impl.Space) { s.Handles[1], s.Handles[2] = s.Handles[2], s.Handles[1] }),
		"two Handles alike":        with(func(s *impl.Space) { s.Handles[2].Id = 7 }),
		"a Handle of no Inst":      with(func(s *impl.Space) { s.Handles = append(s.Handles[:2], handle(8, 2, "x")) }),
		"a Handle of Inst 0":       with(func(s *impl.Space) { s.Handles[3].Inst = 0 }),
		"a Handle of the root":     with(func(s *impl.Space) { s.Handles[3].Path = "" }),
		"one Mount too many":       turned(filled(impl.MaxMounts+1, 0), func(s *impl.Space) {}),
		"one Handle too many":      turned(filled(1, impl.MaxOpen+1), func(s *impl.Space) {}),
		"one more of each":         filled(impl.MaxMounts+1, impl.MaxOpen+1),
		"more Mounts than a list":  with(func(s *impl.Space) { s.Mounts = slices.Repeat(s.Mounts, impl.MaxList) }),
		"more Handles than a list": with(func(s *impl.Space) { s.Handles = slices.Repeat(s.Handles, impl.MaxList) }),
		"more Insts than a list":   with(func(s *impl.Space) { s.Insts = slices.Repeat(s.Insts, impl.MaxList) }),
		"one Inst too many": turned(filled(impl.MaxMounts, impl.MaxOpen), func(s *impl.Space) {
			s.Insts = append(s.Insts, inst(s.Next, yard()))
			s.Next++
		}),
	}
	for _, path := range wrongPaths() {
		all["a Mount at "+path] = with(func(s *impl.Space) { s.Mounts[3].Path = path })
		all["a Handle at "+path] = with(func(s *impl.Space) { s.Handles[3].Path = path })
		all["a root at "+path] = turned(rooted(yard()), func(s *impl.Space) { s.Mounts[0].Path = path })
	}
	return all
}

// spaceRight holds SpaceRight against what is to be told.
func spaceRight(t *testing.T, what string, s impl.Space, want bool) {
	t.Helper()
	if got := impl.SpaceRight(s); got != want || fits(s) != want {
		t.Errorf("%.80s: SpaceRight is %v, and the second telling %v, want %v, of%.3000s", what, got, fits(s), want, shownSpace(s))
	}
}

func TestSpaceRightOfRightSpaces(t *testing.T) {
	for _, s := range someSpaces() {
		spaceRight(t, "right", s, true)
	}
	s := furnished()
	s.Handles = s.Handles[:0:0]
	spaceRight(t, "an Inst lost its Handles", s, false)
	s.Insts = slices.Delete(s.Insts, 3, 4)
	spaceRight(t, "so it goes", s, true)
}

func TestSpaceRightOfWrongSpaces(t *testing.T) {
	for what, s := range wrongSpaces() {
		spaceRight(t, what, s, false)
	}
	for _, n := range append(wrongNests(), longLists()...) {
		for place := range furnished().Insts {
			s := furnished()
			s.Insts[place].Nest = n
			if impl.SpaceRight(s) {
				t.Errorf("it is right, with Inst %d of%.600s", place, shownNest(n))
			}
		}
	}
}

// Each list of just so many as may be, and one more.
func TestSpaceRightByCounts(t *testing.T) {
	for mounts := range impl.MaxMounts + 2 {
		for handles := range impl.MaxOpen + 2 {
			s := filled(mounts, handles)
			spaceRight(t, "filled", s, mounts >= 1 && mounts <= impl.MaxMounts && handles <= impl.MaxOpen)
		}
	}
	// Just as many Insts, of which the last ones have handles alone; a thirteenth has nothing to be held by.
	s := filled(impl.MaxMounts, impl.MaxOpen)
	if len(s.Insts) != 12 {
		t.Fatalf("%d Insts", len(s.Insts))
	}
	s.Insts = append(s.Insts, inst(s.Next, leaf()))
	s.Next++
	spaceRight(t, "one Inst more", s, false)
	s.Handles[0].Inst = s.Next - 1
	spaceRight(t, "one Inst more, and one that nothing has", s, false)
}

func TestSpaceRightByNext(t *testing.T) {
	for next, want := range map[int64]bool{math.MinInt64: false, -1: false, 0: false, 1: false, 2: true, 3: true, impl.MaxTime - 1: true, impl.MaxTime: true, impl.MaxTime + 1: false, math.MaxInt64: false} {
		s := rooted(yard())
		s.Next = next
		spaceRight(t, "one Inst", s, want)
		spaceRight(t, "no Inst", impl.Space{Next: next}, false)
		s.Insts[0].Id, s.Mounts[0].Inst = next-1, next-1
		spaceRight(t, "the last Inst", s, want)
		s.Handles = []impl.Handle{handle(next-1, next-1, "f")}
		spaceRight(t, "the last Inst and Handle", s, want)
		s.Handles[0].Id = next
		spaceRight(t, "a Handle of Next", s, false)
		s.Handles[0].Id = next - 2
		spaceRight(t, "a Handle ahead", s, want && next > 2)
		s.Handles = nil
		s.Insts[0].Id, s.Mounts[0].Inst = next, next
		spaceRight(t, "an Inst of Next", s, false)
	}
}

// Wherever one number, path or mark is another one, it is right just if the second telling says so.
func TestSpaceRightOfTurnedSpaces(t *testing.T) {
	right, wrong := 0, 0
	look := func(s impl.Space) {
		t.Helper()
		if want := fits(s); impl.SpaceRight(s) != want {
			t.Fatalf("SpaceRight is %v of%s", !want, shownSpace(s))
		} else if want {
			right++
		} else {
			wrong++
		}
	}
	paths := []string{"", "a", "a/b", "a/b/c", "a0", "b", "z", "A", "a/", longPath}
	for _, s := range append(oddSpaces(), thrownSpaces(20)...) {
		for number := int64(-1); number <= s.Next+1 && number < 14; number++ {
			for place := range s.Insts {
				look(turned(s, func(s *impl.Space) { s.Insts[place].Id = number }))
			}
			for place := range s.Mounts {
				look(turned(s, func(s *impl.Space) { s.Mounts[place].Inst = number }))
			}
			for place := range s.Handles {
				look(turned(s, func(s *impl.Space) { s.Handles[place].Id = number }))
				look(turned(s, func(s *impl.Space) { s.Handles[place].Inst = number }))
			}
			look(turned(s, func(s *impl.Space) { s.Next = number }))
		}
		for _, path := range paths {
			for place := range s.Mounts {
				look(turned(s, func(s *impl.Space) { s.Mounts[place].Path = path }))
			}
			for place := range s.Handles {
				look(turned(s, func(s *impl.Space) { s.Handles[place].Path = path }))
			}
		}
		for place := range s.Mounts {
			look(turned(s, func(s *impl.Space) { s.Mounts[place].Lazy = true }))
			look(turned(s, func(s *impl.Space) { s.Mounts = slices.Delete(s.Mounts, place, place+1) }))
		}
		for place := range s.Handles {
			look(turned(s, func(s *impl.Space) { s.Handles = slices.Delete(s.Handles, place, place+1) }))
		}
		for place := range s.Insts {
			look(turned(s, func(s *impl.Space) { s.Insts = slices.Delete(s.Insts, place, place+1) }))
		}
	}
	if right < 300 || wrong < 1500 {
		t.Errorf("only %d right ones, and %d wrong ones", right, wrong)
	}
}

// callsOf are all that may be asked of a Space, with what else is handed in; none of these may be done to a wrong one.
func callsOf(s impl.Space, path string, n []impl.Item, number int64) map[string]impl.SpaceOut {
	return map[string]impl.SpaceOut{
		toAsk: impl.Where(s, path), toMount: impl.MountOn(s, path, n), toLeave: impl.Unmount(s, path), toDetach: impl.Detach(s, path), toOpen: impl.Open(s, path), toClose: impl.Close(s, number),
	}
}

// A wrong Space is refused ahead of all that is asked of it; but what is too long is refused ahead of that.
func TestCallsOfWrongSpaces(t *testing.T) {
	for what, s := range wrongSpaces() {
		for _, path := range []string{"", "a", "a/b", "q", "f", "A", strings.Repeat("a", impl.MaxBytes)} {
			for verb, got := range callsOf(s, path, impl.DeskNest(), 6) {
				refusedSpace(t, verb+" of "+what, got, impl.ErrForm)
			}
		}
		refusedSpace(t, "no nest to mount, of "+what, impl.MountOn(s, "c", nil), impl.ErrForm)
		for verb, got := range callsOf(s, tooLong, nil, 99) {
			code := int64(impl.ErrSize)
			if verb == toClose {
				code = impl.ErrForm
			}
			refusedSpace(t, verb+" too long, of "+what, got, code)
		}
		for _, n := range longLists() {
			refusedSpace(t, "too long a list, of "+what, impl.MountOn(s, "A", n), impl.ErrSize)
		}
		for _, number := range []int64{-1, 0, 1, 3, 5, 6, 99} {
			if held := impl.Held(s, number); held != 0 {
				t.Errorf("%.80s: %d is held %d times", what, number, held)
			}
			refusedNest(t, what, impl.NestOf(s, number), impl.ErrForm)
		}
	}
}
