package tests

import (
	"fmt"
	"slices"
	"testing"

	"loop.example/g00449/impl"
)

const (
	toWrite = "write"
	toMake  = "mkdir"
	toDrop  = "rm"
	toTouch = "touch"
)

// deed is one change at a path; what a verb has no use for does not count.
type deed struct {
	verb string
	path string
	data string
	time int64
}

// nest is what the program makes of a nest.
func (d deed) nest(n []impl.Item) impl.NestOut {
	switch d.verb {
	case toWrite:
		return impl.WriteFile(n, d.path, d.data, d.time)
	case toMake:
		return impl.MakeDir(n, d.path, d.time)
	case toDrop:
		return impl.Remove(n, d.path)
	}
	return impl.Touch(n, d.path, d.time)
}

// plain is what the program makes of a plain tree.
func (d deed) plain(t impl.Tree) impl.TreeOut {
	switch d.verb {
	case toWrite:
		return impl.PlainWrite(t, d.path, d.data, d.time)
	case toMake:
		return impl.PlainDir(t, d.path, d.time)
	case toDrop:
		return impl.PlainRemove(t, d.path)
	}
	return impl.PlainTouch(t, d.path, d.time)
}

// deedsAt are all that may be done at a path.
func deedsAt(path string) []deed {
	return []deed{{toWrite, path, "new", 501}, {toMake, path, "", 502}, {toDrop, path, "", 0}, {toTouch, path, "", 503}}
}

// withNode is a list with a node in the place of that of its path, or more; however many these are.
func withNode(nodes []impl.Node, n impl.Node) []impl.Node {
	others := slices.DeleteFunc(slices.Clone(nodes), func(o impl.Node) bool { return o.Path == n.Path })
	return rising(append(others, n))
}

// wantPlain is what chapter 8 says of a plain tree, where path, data and time are right.
func (d deed) wantPlain(t impl.Tree) impl.TreeOut {
	place := placeOf(t, d.path)
	switch {
	case d.verb == toWrite && place >= 0 && t.Nodes[place].Kind == impl.KdDir:
		return impl.TreeOut{Code: impl.ErrDir}
	case d.verb == toWrite:
		return put(t, file(d.path, d.data, d.time))
	case d.verb == toMake && place >= 0:
		return impl.TreeOut{Code: impl.ErrThere}
	case d.verb == toMake:
		return put(t, dir(d.path, d.time, 0))
	case place < 0:
		return impl.TreeOut{Code: impl.ErrNone}
	case d.verb == toTouch:
		touched := t.Nodes[place]
		touched.Time = d.time
		return put(t, touched)
	}
	if slices.ContainsFunc(t.Nodes, func(o impl.Node) bool { return below(o.Path, d.path) }) {
		return impl.TreeOut{Code: impl.ErrState}
	}
	return cut(t, d.path)
}

// nodeOf is the node of a path, or one without a path.
func nodeOf(t impl.Tree, path string) impl.Node {
	if place := placeOf(t, path); place >= 0 {
		return t.Nodes[place]
	}
	return impl.Node{}
}

// above are the paths above one, from the root's child on.
func above(path string) []string {
	if path == "" || parentOf(path) == "" {
		return nil
	}
	return append(above(parentOf(path)), parentOf(path))
}

// wantLeaf is what chapter 8 says of the leaf, given what everybody sees; it may have too many nodes.
func (d deed) wantLeaf(leaf impl.Tree, seen impl.Tree, level int64) impl.Tree {
	nodes := slices.Clone(leaf.Nodes)
	for _, path := range above(d.path) {
		switch had := nodeOf(leaf, path); {
		case had.Path == "":
			nodes = withNode(nodes, dir(path, nodeOf(seen, path).Time, 0))
		case had.Kind == impl.KdGone:
			nodes = withNode(nodes, dir(path, nodeOf(seen, path).Time, had.Mark))
		}
	}
	switch saw := nodeOf(seen, d.path); {
	case d.verb == toWrite:
		nodes = withNode(nodes, file(d.path, d.data, d.time))
	case d.verb == toMake:
		nodes = withNode(nodes, dir(d.path, d.time, level))
	case d.verb == toDrop:
		nodes = notUnder(impl.Tree{Nodes: nodes}, d.path)
		if level > 0 {
			nodes = withNode(nodes, gone(d.path, level))
		}
	case saw.Kind == impl.KdFile:
		nodes = withNode(nodes, file(d.path, saw.Data, d.time))
	default:
		nodes = withNode(nodes, dir(d.path, d.time, nodeOf(leaf, d.path).Mark))
	}
	return impl.Tree{Nodes: nodes}
}

// wantNest is what chapter 8 says of a right nest and its Sight, where path, data and time are right.
func (d deed) wantNest(n []impl.Item, sight impl.TreeOut) impl.NestOut {
	if sight.Code != impl.OK {
		return impl.NestOut{Code: sight.Code}
	}
	if code := d.wantPlain(sight.Tree).Code; code != impl.OK {
		return impl.NestOut{Code: code}
	}
	f := counted(n)
	leaf := d.wantLeaf(n[f.first].Tree, sight.Tree, f.level)
	if len(leaf.Nodes) > impl.MaxNodes {
		return impl.NestOut{Code: impl.ErrFull}
	}
	return impl.NestOut{Nest: withLeaf(n, leaf)}
}

// withLeaf is a nest with that tree in its first leaf.
func withLeaf(n []impl.Item, leaf impl.Tree) []impl.Item {
	changed := slices.Clone(n)
	changed[counted(n).first].Tree = leaf
	return changed
}

// wantMove is what chapter 8 says of a right nest and two right paths that are not the root.
func wantMove(n []impl.Item, sight impl.TreeOut, from string, to string) impl.NestOut {
	source := nodeOf(sight.Tree, from)
	switch {
	case sight.Code != impl.OK:
		return impl.NestOut{Code: sight.Code}
	case source.Path == "":
		return impl.NestOut{Code: impl.ErrNone}
	case source.Kind != impl.KdFile:
		return impl.NestOut{Code: impl.ErrDir}
	case from == to:
		return impl.NestOut{Code: impl.ErrThere}
	}
	written := deed{toWrite, to, source.Data, source.Time}.wantNest(n, sight)
	if written.Code != impl.OK {
		return written
	}
	return deed{verb: toDrop, path: from}.wantNest(written.Nest, sightOf(written.Nest))
}

// sightOf is the Sight of a right nest, by the words of chapter 6.
func sightOf(n []impl.Item) impl.TreeOut {
	return plainly(lookedAt(n))
}

func sameNestOut(a impl.NestOut, b impl.NestOut) bool {
	return a.Code == b.Code && sameNest(a.Nest, b.Nest)
}

// changes holds an answer against what is to be told, all of it.
func changes(t *testing.T, what any, n []impl.Item, got impl.NestOut, want impl.NestOut) {
	t.Helper()
	if !sameNestOut(got, want) {
		t.Fatalf("%+v: %d%.2000s\nwant %d%.2000s\nof%.2000s", what, got.Code, shownNest(got.Nest), want.Code, shownNest(want.Nest), shownNest(n))
	}
}

// refusedNest says that nothing but the code is told.
func refusedNest(t *testing.T, what any, got impl.NestOut, code int64) {
	t.Helper()
	if got.Code != code || len(got.Nest) != 0 {
		t.Errorf("%.300s: %d%.400s, want %d alone", fmt.Sprintf("%+v", what), got.Code, shownNest(got.Nest), code)
	}
}

// changesTree is changes for a plain tree.
func changesTree(t *testing.T, what any, whole impl.Tree, got impl.TreeOut, want impl.TreeOut) {
	t.Helper()
	if !sameOut(got, want) {
		t.Errorf("%.300s: %d %.2000s, want %d %.2000s, of %.2000s", fmt.Sprintf("%+v", what), got.Code, shown(got.Tree), want.Code, shown(want.Tree), shown(whole))
	}
}

// pathsToChange are the paths of a nest, and new ones beside and below some of them.
func pathsToChange(n []impl.Item) []string {
	paths := append(pathsIn(n)[1:], "new", "new/new")
	for place, path := range pathsIn(n) {
		if place%3 == 1 && len(split(path)) < impl.MaxNames {
			paths = append(paths, path+"/new")
		}
	}
	slices.Sort(paths)
	return slices.Compact(paths)
}

// layeredNests are nests whose first leaf lies in one to three Items, with what the layers of chapter 5 have at
// the path a; below and beside it others have all that may be there.
func layeredNests() [][]impl.Item {
	all := [][]impl.Item{}
	for _, top := range treesAtA(0) {
		for _, mid := range treesAtA(1) {
			for _, low := range treesAtA(2) {
				a, b, c := leafOf(top), leafOf(mid), leafOf(low)
				all = append(all, nested(a, b, c), nested(nested(a, b), c), nested(nested(a), b, c), nested(nested(nested(a), b), c), nested(a, nested(b, c)))
			}
		}
	}
	return all
}

// changedNests are right nests of which most have room for a change.
func changedNests() [][]impl.Item {
	all := append(layeredNests(), crowdedNests()...)
	for number, n := range someNests() {
		if number%2 == 0 || number > 300 {
			all = append(all, n)
		}
	}
	return append(all, thrownFlat(100)...)
}
