package tests

import (
	"fmt"
	"regexp"
	"slices"
	"strconv"
	"strings"
	"testing"

	"loop.example/g00449/impl"
)

// deskLine is the form of a line by chapter 11, without its line feed.
var deskLine = regexp.MustCompile(`^((cd|read|list|mkdir|rm|touch|flat|mount|umount|detach|open) [^ \n]+|write [^ \n]+ [^ \n]+|(get|close) (0|[1-9][0-9]{0,8})|put (0|[1-9][0-9]{0,8}) [^ \n]+)$`)

// faultOf is the fault that chapters 1 and 11 name of a text.
func faultOf(text string) impl.DeskOut {
	if len(text) > 8000 {
		return impl.DeskOut{Code: impl.ErrSize}
	}
	for number, line := range strings.SplitAfter(text, "\n") {
		if line == "" {
			continue // behind the last line feed
		}
		if bare, ended := strings.CutSuffix(line, "\n"); !ended || number >= 30 || !deskLine.MatchString(bare) {
			return impl.DeskOut{Line: int64(number), Code: impl.ErrSyntax}
		}
	}
	return impl.DeskOut{}
}

// plainDesk is a desk without layers: each of its instances is one plain tree, and knows how often it may be told to
// be flatter.
type plainDesk struct {
	here    string
	seen    map[int64]impl.Tree
	flat    map[int64]bool
	mounts  map[string]int64
	handles map[int64]impl.Handle
	next    int64
}

func newPlainDesk() *plainDesk {
	p := &plainDesk{seen: map[int64]impl.Tree{}, flat: map[int64]bool{}, mounts: map[string]int64{}, handles: map[int64]impl.Handle{}, next: 1}
	p.mount("")
	return p
}

// mount puts what everybody sees of a DeskNest at a path.
func (p *plainDesk) mount(path string) string {
	id := p.next
	p.next++
	p.seen[id] = tree(dir("a", 1, 0), file("a/x", "in", 2), file("a/y", "far", 5))
	p.mounts[path] = id
	return fmt.Sprint("inst ", id)
}

func (p *plainDesk) open(inst int64, path string) string {
	id := p.next
	p.next++
	p.handles[id] = handle(id, inst, path)
	return fmt.Sprint("handle ", id)
}

// leads is the instance that a path leads to, and the rest of the path there.
func (p *plainDesk) leads(path string) (int64, string) {
	most := ""
	for top := range p.mounts {
		if startsWith(path, top) && len(top) > len(most) {
			most = top
		}
	}
	return p.mounts[most], strings.TrimPrefix(strings.TrimPrefix(path, most), "/")
}

// mountUnder: is there a mount below a path?
func (p *plainDesk) mountUnder(path string) bool {
	for top := range p.mounts {
		if below(top, path) {
			return true
		}
	}
	return false
}

func (p *plainDesk) hasHandle(inst int64) bool {
	for _, h := range p.handles {
		if h.Inst == inst {
			return true
		}
	}
	return false
}

func errorOf(code int64) string {
	return fmt.Sprint("error ", code)
}

// readTree is what is told of a file of a plain tree; its root is a directory.
func readTree(seen impl.Tree, path string) string {
	there := nodeOf(seen, path)
	switch {
	case path != "" && there.Path == "":
		return errorOf(impl.ErrNone)
	case there.Kind != impl.KdFile:
		return errorOf(impl.ErrDir)
	}
	return there.Data
}

// listTree is what is told of a directory of a plain tree.
func listTree(seen impl.Tree, path string) string {
	there := nodeOf(seen, path)
	switch {
	case path != "" && there.Path == "":
		return errorOf(impl.ErrNone)
	case there.Kind == impl.KdFile:
		return errorOf(impl.ErrFile)
	}
	names := []string{}
	for _, n := range seen.Nodes {
		if parentOf(n.Path) == path {
			names = append(names, split(n.Path)[len(split(n.Path))-1])
		}
	}
	if len(names) == 0 {
		return "-"
	}
	slices.Sort(names)
	return strings.Join(names, ",")
}

// change does one thing in the plain tree of an instance.
func (p *plainDesk) change(inst int64, d deed) string {
	if len(d.data) > 60 {
		return errorOf(impl.ErrForm)
	}
	then := d.wantPlain(p.seen[inst])
	if then.Code != impl.OK {
		return errorOf(then.Code)
	}
	p.seen[inst] = then.Tree
	return "ok"
}

// tellHandle is what a line with N tells.
func (p *plainDesk) tellHandle(words []string, time int64) string {
	id, _ := strconv.ParseInt(words[1], 10, 64)
	h, there := p.handles[id]
	switch {
	case words[0] == toPut && len(words[2]) > 60:
		return errorOf(impl.ErrForm)
	case !there:
		return errorOf(impl.ErrNone)
	case words[0] == toGet:
		return readTree(p.seen[h.Inst], h.Path)
	case words[0] == toPut:
		return p.change(h.Inst, deed{toWrite, h.Path, words[2], time})
	}
	delete(p.handles, id)
	return "ok"
}

// tellChange is what a line tells that changes something at a path.
func (p *plainDesk) tellChange(words []string, path string, time int64) string {
	d := deed{verb: words[0], time: time}
	if d.verb == toWrite {
		d.data = words[2]
	}
	inst, rest := p.leads(path)
	switch {
	case len(d.data) > 60:
		return errorOf(impl.ErrForm)
	case rest == "" || d.verb == toDrop && p.mountUnder(path):
		return errorOf(impl.ErrBusy)
	}
	d.path = rest
	return p.change(inst, d)
}

// tellFlat: a DeskNest is made flatter just once.
func (p *plainDesk) tellFlat(path string) string {
	inst, _ := p.leads(path)
	if p.flat[inst] {
		return errorOf(impl.ErrState)
	}
	p.flat[inst] = true
	return "ok"
}

// tellMount is what a line tells that mounts something.
func (p *plainDesk) tellMount(path string) string {
	inst, rest := p.leads(path)
	there := nodeOf(p.seen[inst], rest)
	switch {
	case rest == "":
		return errorOf(impl.ErrThere)
	case there.Path == "":
		return errorOf(impl.ErrNone)
	case there.Kind != impl.KdDir:
		return errorOf(impl.ErrFile)
	case len(p.mounts) == 6:
		return errorOf(impl.ErrFull)
	}
	return p.mount(path)
}

// tellLeave is what a line tells that takes mounts away.
func (p *plainDesk) tellLeave(verb string, path string) string {
	inst, there := p.mounts[path]
	switch {
	case path == "":
		return errorOf(impl.ErrForm)
	case !there:
		return errorOf(impl.ErrNone)
	case verb == "umount" && (p.mountUnder(path) || p.hasHandle(inst)):
		return errorOf(impl.ErrBusy)
	}
	for top := range p.mounts {
		if startsWith(top, path) {
			delete(p.mounts, top)
		}
	}
	return "ok"
}

// tellOpen is what a line tells that opens a file.
func (p *plainDesk) tellOpen(path string) string {
	inst, rest := p.leads(path)
	there := nodeOf(p.seen[inst], rest)
	switch {
	case rest == "" || there.Path == "":
		return errorOf(impl.ErrNone)
	case there.Kind != impl.KdFile:
		return errorOf(impl.ErrDir)
	case len(p.handles) == 6:
		return errorOf(impl.ErrFull)
	}
	return p.open(inst, rest)
}

// tell is what a right line tells.
func (p *plainDesk) tell(line string, number int) string {
	words, time := strings.Split(line, " "), int64(number+100)
	if slices.Contains([]string{toGet, toPut, toClose}, words[0]) {
		return p.tellHandle(words, time)
	}
	at := walked(p.here, words[1])
	if at.Code != impl.OK {
		return errorOf(at.Code)
	}
	inst, rest := p.leads(at.Text)
	switch words[0] {
	case "cd":
		p.here = at.Text
		return "ok"
	case toRead:
		return readTree(p.seen[inst], rest)
	case toList:
		return listTree(p.seen[inst], rest)
	case "flat":
		return p.tellFlat(at.Text)
	case toMount:
		return p.tellMount(at.Text)
	case toOpen:
		return p.tellOpen(at.Text)
	case "umount", toDetach:
		return p.tellLeave(words[0], at.Text)
	}
	return p.tellChange(words, at.Text, time)
}

// plainlyTold is what right lines tell at a desk of plain trees, one by one.
func plainlyTold(lines []string) []string {
	p := newPlainDesk()
	all := []string{}
	for number, line := range lines {
		all = append(all, p.tell(line, number))
	}
	return all
}

// linesTo is the text of lines, each with its line feed.
func linesTo(lines []string) string {
	text := ""
	for _, line := range lines {
		text += line + "\n"
	}
	return text
}

// deskSays holds all of what a text is answered against what is to be told, with and without Text.
func deskSays(t *testing.T, what any, text string, want impl.DeskOut) {
	t.Helper()
	if got := impl.DeskRun(text); got != want {
		t.Fatalf("%.200s: DeskRun(%.1500q) = %+v\nwant %+v", fmt.Sprint(what), text, got, want)
	}
	want.Text = ""
	if got := impl.DeskFault(text); got != want {
		t.Fatalf("%.200s: DeskFault(%.1500q) = %+v\nwant %+v", fmt.Sprint(what), text, got, want)
	}
}

// deskTells runs lines that each have what they tell behind them.
func deskTells(t *testing.T, what string, pairs ...string) {
	t.Helper()
	lines, told := []string{}, []string{}
	for place := 0; place < len(pairs); place += 2 {
		lines, told = append(lines, pairs[place]), append(told, pairs[place+1])
	}
	deskSays(t, what, linesTo(lines), impl.DeskOut{Text: linesTo(told)})
	if plain := plainlyTold(lines); !slices.Equal(plain, told) {
		t.Fatalf("%s: of plain trees %q tell %q, want %q", what, lines, plain, told)
	}
}

// faultAt says that a text is refused at a line, with nothing told.
func faultAt(t *testing.T, what any, text string, line int64) {
	t.Helper()
	deskSays(t, what, text, impl.DeskOut{Line: line, Code: impl.ErrSyntax})
	if want := faultOf(text); want.Line != line || want.Code != impl.ErrSyntax {
		t.Fatalf("%v: by its words %+v", what, want)
	}
}
