package tests

import (
	"math"
	"slices"
	"testing"

	"loop.example/g00449/impl"
)

// deskWith is the nest of the desk with these nodes in its first leaf.
func deskWith(nodes ...impl.Node) []impl.Item {
	return withLeaf(impl.DeskNest(), tree(nodes...))
}

// toldFile is what is told of a file.
func toldFile(data string, time int64) impl.VfsOut {
	return impl.VfsOut{Data: data, Time: time}
}

// codeAlone is an answer with nothing beside its code.
func codeAlone(code int64) impl.VfsOut {
	return impl.VfsOut{Code: code}
}

func TestVfsReadKnown(t *testing.T) {
	s := furnished()
	for path, want := range map[string]impl.VfsOut{
		"f": toldFile("top", 10), "g/f": toldFile("", 12), "a/f": toldFile("top", 10), "a/g/f": toldFile("", 12), "a/a/x": toldFile("in", 5), "a/a/b/f": toldFile("deep", 4),
		"a/b/a/x": toldFile("in", 2), "a/b/a/y": toldFile("far", 5), "b/a/x": toldFile("in", 2), "b/a/y": toldFile("far", 5),
		"": codeAlone(impl.ErrDir), "a": codeAlone(impl.ErrDir), "a/b": codeAlone(impl.ErrDir), "b": codeAlone(impl.ErrDir),
		"c": codeAlone(impl.ErrDir), "g": codeAlone(impl.ErrDir), "a/a": codeAlone(impl.ErrDir), "a/a/b/c": codeAlone(impl.ErrDir), "a/b/a": codeAlone(impl.ErrDir), "b/a": codeAlone(impl.ErrDir),
		"q": codeAlone(impl.ErrNone), "f/q": codeAlone(impl.ErrNone), "c/q": codeAlone(impl.ErrNone), "a/q": codeAlone(impl.ErrNone), "b/b": codeAlone(impl.ErrNone), "bb": codeAlone(impl.ErrNone), "b/a/x/q": codeAlone(impl.ErrNone), "a/b/c/d/e/f": codeAlone(impl.ErrNone), longPath: codeAlone(impl.ErrNone),
		// What the instance of the root has under a mount is not seen there.
		"a/x": codeAlone(impl.ErrNone), "a/b/f": codeAlone(impl.ErrNone), "a/b/c": codeAlone(impl.ErrNone),
	} {
		vfsTells(t, path, s, impl.VfsRead(s, path), want)
	}
}

func TestVfsListKnown(t *testing.T) {
	s := furnished()
	listed := func(names ...string) impl.VfsOut { return impl.VfsOut{Names: names} }
	yardNames := []string{"a", "b", "c", "d", "e", "f", "g"}
	for path, want := range map[string]impl.VfsOut{
		"": listed(yardNames...), "a": listed(yardNames...), "a/b": listed("a"), "b": listed("a"),
		"c": listed(), "a/b/a": listed("x", "y"), "b/a": listed("x", "y"), "g": listed("f"), "a/a": listed("b", "x"), "a/a/b": listed("c", "f"), "a/a/b/c": listed(), "a/c": listed(),
		"f": codeAlone(impl.ErrFile), "g/f": codeAlone(impl.ErrFile), "a/f": codeAlone(impl.ErrFile), "a/b/a/x": codeAlone(impl.ErrFile), "b/a/y": codeAlone(impl.ErrFile),
		"q": codeAlone(impl.ErrNone), "f/q": codeAlone(impl.ErrNone), "a/q": codeAlone(impl.ErrNone), "a/b/c": codeAlone(impl.ErrNone), "b/a/q": codeAlone(impl.ErrNone), "bb": codeAlone(impl.ErrNone), longPath: codeAlone(impl.ErrNone),
	} {
		vfsTells(t, path, s, impl.VfsList(s, path), want)
	}
	// A mount where nothing is in the instance above is listed for itself, but is no name there.
	lost := impl.Space{Insts: []impl.Instance{inst(1, leaf(file("f", "", 1))), inst(2, leaf(dir("in", 1, 0))), inst(3, leaf())}, Mounts: []impl.Mount{mounted("", 1), mounted("f", 2), mounted("n/o", 3)}, Next: 4}
	vfsTells(t, "the root", lost, impl.VfsList(lost, ""), listed("f"))
	vfsTells(t, "over a file", lost, impl.VfsList(lost, "f"), listed("in"))
	vfsTells(t, "over nothing", lost, impl.VfsList(lost, "n/o"), listed())
	refusedVfs(t, "above it", impl.VfsList(lost, "n"), impl.ErrNone)
	refusedVfs(t, "over a file", impl.VfsRead(lost, "f"), impl.ErrDir)
	refusedVfs(t, "over nothing", impl.VfsRead(lost, "n/o"), impl.ErrDir)
}

// Of each change the whole Space is told, with another nest in one instance, and nothing beside it.
func TestVfsChangesKnown(t *testing.T) {
	s := furnished()
	for what, k := range map[string]struct {
		got impl.VfsOut
		id  int64
		n   []impl.Item
	}{
		"written over another":     {impl.VfsWrite(s, "a/b/a/x", "new", 30), 3, deskWith(dir("a", 1, 0), file("a/x", "new", 30))},
		"written over a low one":   {impl.VfsWrite(s, "b/a/y", "", 0), 9, deskWith(dir("a", 1, 0), file("a/y", "", 0))},
		"written new":              {impl.VfsWrite(s, "a/b/z", "z", 31), 3, deskWith(file("z", "z", 31))},
		"written to the root":      {impl.VfsWrite(s, "f", "again", 32), 1, leafOf(put(yard()[0].Tree, file("f", "again", 32)).Tree)},
		"written beside a mount":   {impl.VfsWrite(s, "bb", "", 33), 1, leafOf(put(yard()[0].Tree, file("bb", "", 33)).Tree)},
		"written in the midst":     {impl.VfsWrite(s, "a/x", "x", 34), 4, leafOf(put(yard()[0].Tree, file("x", "x", 34)).Tree)},
		"made":                     {impl.VfsMakeDir(s, "a/b/d", 40), 3, deskWith(dir("d", 40, 2))},
		"made further down":        {impl.VfsMakeDir(s, "b/a/d", 41), 9, deskWith(dir("a", 1, 0), dir("a/d", 41, 2))},
		"made in the root":         {impl.VfsMakeDir(s, "c/c", 42), 1, leafOf(put(yard()[0].Tree, dir("c/c", 42, 0)).Tree)},
		"removed":                  {impl.VfsRemove(s, "a/b/a/x"), 3, deskWith(dir("a", 1, 0), gone("a/x", 2))},
		"removed below":            {impl.VfsRemove(s, "b/a/y"), 9, deskWith(dir("a", 1, 0), gone("a/y", 2))},
		"removed from the root":    {impl.VfsRemove(s, "c"), 1, leafOf(cut(yard()[0].Tree, "c").Tree)},
		"removed below its handle": {impl.VfsRemove(s, "f"), 1, leafOf(cut(yard()[0].Tree, "f").Tree)},
		"touched":                  {impl.VfsTouch(s, "a/b/a/y", 77), 3, deskWith(dir("a", 1, 0), file("a/y", "far", 77))},
		"touched a directory":      {impl.VfsTouch(s, "b/a", 78), 9, deskWith(dir("a", 78, 0))},
		"put":                      {impl.VfsPut(s, 6, "put", 50), 3, deskWith(dir("a", 1, 0), file("a/x", "put", 50))},
		"put where none is":        {impl.VfsPut(s, 7, "", 51), 5, leaf(file("x", "", 51))},
		"put by the other one":     {impl.VfsPut(s, 10, "ten", 0), 5, leaf(file("x", "ten", 0))},
		"put to the root":          {impl.VfsPut(s, 11, "put", 52), 1, leafOf(put(yard()[0].Tree, file("f", "put", 52)).Tree)},
	} {
		vfsTells(t, what, s, k.got, impl.VfsOut{Space: withNest(s, k.id, k.n)})
	}
}

func TestVfsChangesRefusedKnown(t *testing.T) {
	s := furnished()
	for path, codes := range map[string][4]int64{ // write, mkdir, rm, touch
		"":        {impl.ErrBusy, impl.ErrBusy, impl.ErrBusy, impl.ErrBusy},
		"a":       {impl.ErrBusy, impl.ErrBusy, impl.ErrBusy, impl.ErrBusy},
		"a/b":     {impl.ErrBusy, impl.ErrBusy, impl.ErrBusy, impl.ErrBusy},
		"b":       {impl.ErrBusy, impl.ErrBusy, impl.ErrBusy, impl.ErrBusy},
		"c":       {impl.ErrDir, impl.ErrThere, impl.OK, impl.OK},
		"g":       {impl.ErrDir, impl.ErrThere, impl.ErrState, impl.OK},
		"f":       {impl.OK, impl.ErrThere, impl.OK, impl.OK},
		"q":       {impl.OK, impl.OK, impl.ErrNone, impl.ErrNone},
		"q/q":     {impl.ErrNone, impl.ErrNone, impl.ErrNone, impl.ErrNone},
		"f/q":     {impl.ErrFile, impl.ErrFile, impl.ErrNone, impl.ErrNone},
		"a/b/a":   {impl.ErrDir, impl.ErrThere, impl.ErrState, impl.OK},
		"a/b/a/x": {impl.OK, impl.ErrThere, impl.OK, impl.OK},
		"a/b/b":   {impl.OK, impl.OK, impl.ErrNone, impl.ErrNone},
		"b/a/x/q": {impl.ErrFile, impl.ErrFile, impl.ErrNone, impl.ErrNone},
		"b/q/q":   {impl.ErrNone, impl.ErrNone, impl.ErrNone, impl.ErrNone},
	} {
		for number, w := range changesAt(path) {
			if got := w.do(s); got.Code != codes[number] {
				t.Errorf("%s %q tells %d, want %d", w.verb, path, got.Code, codes[number])
			} else if got.Code != impl.OK {
				refusedVfs(t, path, got, codes[number])
			}
		}
	}
}

// A mount under a path forbids that this is removed, one just beside it does not; neither forbids anything else.
func TestVfsRemoveAboveAMount(t *testing.T) {
	below := impl.MountOn(rooted(yard()), "a/b/c", impl.DeskNest()).Space
	refusedVfs(t, "just above", impl.VfsRemove(below, "a/b"), impl.ErrBusy)
	refusedVfs(t, "far above", impl.VfsRemove(below, "a"), impl.ErrBusy)
	refusedVfs(t, "beside, but not empty", impl.VfsRemove(below, "g"), impl.ErrState)
	for _, path := range []string{"b", "a/x", "a/b/f", "e"} {
		vfsTells(t, path, below, impl.VfsRemove(below, path), impl.VfsOut{Space: withNest(below, 1, leafOf(cut(yard()[0].Tree, path).Tree))})
	}
	vfsTells(t, "touched above", below, impl.VfsTouch(below, "a/b", 99), impl.VfsOut{Space: withNest(below, 1, leafOf(put(yard()[0].Tree, dir("a/b", 99, 0)).Tree))})
	refusedVfs(t, "written above", impl.VfsWrite(below, "a/b", "", 1), impl.ErrDir)
	refusedVfs(t, "made above", impl.VfsMakeDir(below, "a/b", 1), impl.ErrThere)
	// A path whose name another one begins with is not above it.
	beside := impl.Space{Insts: []impl.Instance{inst(1, leaf(dir("a", 1, 0), dir("ab", 2, 0), dir("ab/c", 3, 0))), inst(2, leaf()), inst(3, leaf())}, Mounts: []impl.Mount{mounted("", 1), mounted("ab", 2), mounted("ab/c", 3)}, Next: 4}
	vfsTells(t, "beside", beside, impl.VfsRemove(beside, "a"), impl.VfsOut{Space: withNest(beside, 1, leaf(dir("ab", 2, 0), dir("ab/c", 3, 0)))})
	// Where nothing is, a mount under it is told ahead of that.
	lost := impl.Space{Insts: []impl.Instance{inst(1, leaf()), inst(2, leaf())}, Mounts: []impl.Mount{mounted("", 1), mounted("n/o/w", 2)}, Next: 3}
	refusedVfs(t, "nothing there, but a mount under it", impl.VfsRemove(lost, "n/o"), impl.ErrBusy)
	refusedVfs(t, "nothing there", impl.VfsRemove(lost, "n/p"), impl.ErrNone)
	refusedVfs(t, "no parent", impl.VfsWrite(lost, "n/o", "", 1), impl.ErrNone)
	vfsTells(t, "made", lost, impl.VfsMakeDir(lost, "n", 5), impl.VfsOut{Space: withNest(lost, 1, leaf(dir("n", 5, 0)))})
}

func TestVfsHandleKnown(t *testing.T) {
	s := furnished()
	for id, want := range map[int64]impl.VfsOut{6: toldFile("in", 2), 7: toldFile("alone", 1), 10: toldFile("alone", 1), 11: toldFile("top", 10)} {
		vfsTells(t, id, s, impl.VfsHandle(s, id), want)
	}
	for _, id := range []int64{math.MinInt64, -6, -1, 0, 1, 2, 3, 4, 5, 8, 9, 12, 13, impl.MaxTime, math.MaxInt64} {
		refusedVfs(t, id, impl.VfsHandle(s, id), impl.ErrNone)
		refusedVfs(t, id, impl.VfsPut(s, id, "", 1), impl.ErrNone)
	}
	// A mount over the path of a handle does not stand in its way, nor does one over its parent.
	over := rooted(impl.DeskNest())
	over.Insts = append(over.Insts, inst(2, yard()), inst(3, yard()))
	over.Mounts = append(over.Mounts, mounted("a", 2), mounted("a/x", 3))
	over.Handles = []impl.Handle{handle(4, 1, "a/x"), handle(5, 1, "a/y")}
	over.Next = 6
	vfsTells(t, "over it", over, impl.VfsHandle(over, 4), toldFile("in", 2))
	vfsTells(t, "over its parent", over, impl.VfsHandle(over, 5), toldFile("far", 5))
	vfsTells(t, "put", over, impl.VfsPut(over, 4, "put", 6), impl.VfsOut{Space: withNest(over, 1, deskWith(dir("a", 1, 0), file("a/x", "put", 6)))})
	refusedVfs(t, "by its path", impl.VfsWrite(over, "a/x", "put", 6), impl.ErrBusy)
}

// Two handles of one path are of one file, whichever is written; one that is closed takes nothing with it.
func TestVfsTwoHandlesOfOnePath(t *testing.T) {
	s := impl.VfsPut(furnished(), 7, "both", 60).Space
	vfsTells(t, "the one", s, impl.VfsHandle(s, 7), toldFile("both", 60))
	vfsTells(t, "the other", s, impl.VfsHandle(s, 10), toldFile("both", 60))
	s = impl.Close(s, 7).Space
	refusedVfs(t, "closed", impl.VfsHandle(s, 7), impl.ErrNone)
	refusedVfs(t, "closed", impl.VfsPut(s, 7, "", 1), impl.ErrNone)
	vfsTells(t, "the other", s, impl.VfsHandle(s, 10), toldFile("both", 60))
}

// A handle has its path, not its file: what was removed is no more there, but may be put there again.
func TestVfsHandleOfWhatIsNoMoreThere(t *testing.T) {
	for what, start := range map[string]impl.Space{"of layers": rooted(impl.DeskNest()), "of a leaf": rooted(leaf(dir("a", 1, 0), file("a/x", "in", 2), file("a/y", "far", 5)))} {
		opened := impl.Open(start, "a/x")
		s, id := impl.VfsRemove(opened.Space, "a/x").Space, opened.Id
		refusedVfs(t, what+": removed", impl.VfsHandle(s, id), impl.ErrNone)
		again := impl.VfsPut(s, id, "again", 70).Space
		vfsTells(t, what+": put again", again, impl.VfsHandle(again, id), toldFile("again", 70))
		vfsTells(t, what+": put again, by its path", again, impl.VfsRead(again, "a/x"), toldFile("again", 70))
		isDir := impl.VfsMakeDir(s, "a/x", 71).Space
		refusedVfs(t, what+": a directory now", impl.VfsHandle(isDir, id), impl.ErrDir)
		refusedVfs(t, what+": a directory now", impl.VfsPut(isDir, id, "", 1), impl.ErrDir)
		alone := impl.VfsRemove(impl.VfsRemove(s, "a/y").Space, "a").Space
		refusedVfs(t, what+": no parent", impl.VfsHandle(alone, id), impl.ErrNone)
		refusedVfs(t, what+": no parent", impl.VfsPut(alone, id, "", 1), impl.ErrNone)
		isFile := impl.VfsWrite(alone, "a", "flat", 72).Space
		refusedVfs(t, what+": a file above", impl.VfsHandle(isFile, id), impl.ErrNone)
		refusedVfs(t, what+": a file above", impl.VfsPut(isFile, id, "", 1), impl.ErrFile)
		vfsTells(t, what+": the file above", isFile, impl.VfsRead(isFile, "a"), toldFile("flat", 72))
	}
}

func TestVfsFlatterKnown(t *testing.T) {
	s := furnished()
	desk := impl.DeskNest()
	flat := slices.Concat(desk[:4], desk[5:])
	for path, id := range map[string]int64{"a/b": 3, "a/b/a/x": 3, "a/b/q": 3, "b": 9, "b/a": 9, "b/q/q": 9} {
		once := impl.VfsFlatter(s, path)
		vfsTells(t, path, s, once, impl.VfsOut{Space: withNest(s, id, flat)})
		refusedVfs(t, path+" once more", impl.VfsFlatter(once.Space, path), impl.ErrState)
	}
	for _, path := range []string{"", "q", "f", "c", "a", "a/x", "bb"} {
		refusedVfs(t, path+", a leaf", impl.VfsFlatter(s, path), impl.ErrState)
	}
	one, two, three := leaf(file("x", "1", 1)), leaf(file("x", "2", 2)), leaf(file("x", "3", 3))
	for what, k := range map[string]struct {
		n    []impl.Item
		flat []impl.Item
	}{
		"just as many":          {nested(one, two, nested(three, one)), nested(one, two, three, one)},
		"one too many":          {nested(one, two, three, nested(one, two)), nil},
		"two are to be opened":  {nested(one, nested(two, nested(three))), nested(one, two, nested(three))},
		"one layer alone":       {nested(nested(one, two)), nil},
		"the first one is deep": {nested(nested(one, two), three), nil},
	} {
		s := rooted(k.n)
		if k.flat == nil {
			refusedVfs(t, what, impl.VfsFlatter(s, "x"), impl.ErrState)
			continue
		}
		vfsTells(t, what, s, impl.VfsFlatter(s, "x"), impl.VfsOut{Space: rooted(k.flat)})
	}
}
