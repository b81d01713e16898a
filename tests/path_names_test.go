package tests

import (
	"slices"
	"strings"
	"testing"

	"loop.example/g00449/impl"
)

// longName has the most bytes that a name may have.
const longName = "abcdefghij_123456789"

// tooLong is one byte longer than any text that may be handed in.
var tooLong = strings.Repeat("a", impl.MaxBytes+1)

// somePaths are right paths of every count of names, alike and unlike in their beginnings.
func somePaths() []string {
	return []string{
		"", "a", "b", "ab", "a_", "a0", "z9_", longName,
		"a/a", "a/b", "ab/a", "b/a", "a_/b", "a/" + longName,
		"a/b/c", "a/b/d", "a/bb/c", "b/a/a",
		"a/b/c/d", "a/b/c/d/e", "a/b/c/d/e/f", "a/a/a/a/a/a",
		strings.Repeat(longName+"/", impl.MaxNames-1) + longName,
	}
}

// wrongPaths are no paths, each for a reason of its own.
func wrongPaths() []string {
	return []string{
		"/", "//", "/a", "a/", "a//b", "a/b/", "/a/b", ".", "..", "a/.", "a/..", "a/../b",
		"A", "a/B", "1", "_a", "a/1b", "a/_", "a b", " ", "a/ /b", "a\x00", "a\n", "a-b", "a.b", "\xff", "a/\xc3\xa9", "a\xe2/b", "\xc0\xaf",
		longName + "x", "a/" + longName + "x", longName + "x/a",
		"a/a/a/a/a/a/a", "a/a/a/a/a/a/", "/a/a/a/a/a/a", "a/b/c/d/e/f/g",
		strings.Repeat("a", impl.MaxBytes), strings.Repeat("a/", impl.MaxBytes/2), tooLong, strings.Repeat("/", impl.MaxBytes+1),
	}
}

// someNames are names of 1 to 20 bytes.
func someNames() []string {
	return []string{"a", "z", "ab", "a0", "a_", longName, strings.Repeat("z", 20)}
}

// wrongNames are no names, and none is longer than MaxBytes.
func wrongNames() []string {
	return []string{"", ".", "..", "/", "a/b", "a/", "/a", "A", "0", "_", "0a", "_a", "a-", "a b", "\x00", "a\x80", longName + "x", strings.Repeat("a", impl.MaxBytes)}
}

// split is an other way to the names of a right path.
func split(path string) []string {
	if path == "" {
		return nil
	}
	return strings.Split(path, "/")
}

func TestPathRight(t *testing.T) {
	for _, path := range somePaths() {
		if !impl.PathRight(path) {
			t.Errorf("PathRight(%q) is false", path)
		}
	}
	for _, path := range wrongPaths() {
		if impl.PathRight(path) {
			t.Errorf("PathRight(%.40q) is true", path)
		}
	}
}

func TestPathRightByCountOfNames(t *testing.T) {
	for count := 1; count <= impl.MaxNames+2; count++ {
		path := strings.TrimSuffix(strings.Repeat("ab/", count), "/")
		if got, want := impl.PathRight(path), count <= impl.MaxNames; got != want {
			t.Errorf("PathRight of %d names = %v, want %v", count, got, want)
		}
	}
}

// Every name of a path is looked at, not just the first one or the last one.
func TestPathRightLooksAtEachName(t *testing.T) {
	for count := 1; count <= impl.MaxNames; count++ {
		for place := range count {
			for _, name := range []string{"", "A", ".", "..", longName + "x"} {
				all := slices.Repeat([]string{"ab"}, count)
				all[place] = name
				path := strings.Join(all, "/")
				if path != "" && impl.PathRight(path) {
					t.Errorf("PathRight(%q) is true", path)
				}
			}
		}
	}
}

func TestPathNames(t *testing.T) {
	for _, path := range somePaths() {
		if got := impl.PathNames(path); !slices.Equal(got, split(path)) {
			t.Errorf("PathNames(%q) = %q", path, got)
		}
	}
	for _, path := range wrongPaths() {
		if got := impl.PathNames(path); len(got) != 0 {
			t.Errorf("PathNames(%.40q) = %.40q, want none", path, got)
		}
	}
}

// Promise 3: a name that is put to a path is its last one, and the path its parent.
func TestJoinedNameIsTheLastOne(t *testing.T) {
	for _, path := range somePaths() {
		for _, name := range someNames() {
			want := impl.TextOut{Text: strings.Join(append(split(path), name), "/")}
			if len(split(path)) == impl.MaxNames {
				want = impl.TextOut{Code: impl.ErrFull}
			}
			got := impl.PathJoin(path, name)
			if got != want {
				t.Errorf("PathJoin(%q, %q) = %+v, want %+v", path, name, got, want)
			}
			if got.Code == impl.OK && (impl.PathBase(got.Text) != name || impl.PathParent(got.Text) != path || !impl.PathRight(got.Text)) {
				t.Errorf("of %q put to %q: base %q, parent %q", name, path, impl.PathBase(got.Text), impl.PathParent(got.Text))
			}
		}
	}
}

func TestPathJoinRefuses(t *testing.T) {
	full := "a/b/c/d/e/f"
	for _, name := range wrongNames() {
		for _, path := range []string{"", "a", full, "A", "a/"} {
			if got := impl.PathJoin(path, name); got != (impl.TextOut{Code: impl.ErrForm}) {
				t.Errorf("PathJoin(%q, %.30q) = %.60v, want ErrForm", path, name, got)
			}
		}
	}
	for _, path := range wrongPaths() {
		want := impl.TextOut{Code: impl.ErrForm}
		if len(path) > impl.MaxBytes {
			want.Code = impl.ErrSize
		}
		for _, name := range []string{"a", "", "A"} {
			if got := impl.PathJoin(path, name); got != want {
				t.Errorf("PathJoin(%.30q, %q) = %.60v, want %+v", path, name, got, want)
			}
		}
		if got := impl.PathJoin(path, tooLong); got != (impl.TextOut{Code: impl.ErrSize}) {
			t.Errorf("PathJoin(%.30q, a name that is too long) = %.60v, want ErrSize", path, got)
		}
	}
	if got := impl.PathJoin("a", tooLong); got != (impl.TextOut{Code: impl.ErrSize}) {
		t.Errorf("PathJoin of a name of more than MaxBytes bytes = %.60v, want ErrSize", got)
	}
}

func TestPathParentAndBase(t *testing.T) {
	for _, path := range somePaths() {
		all := split(path)
		parent, base := "", ""
		if len(all) > 0 {
			parent, base = strings.Join(all[:len(all)-1], "/"), all[len(all)-1]
		}
		if got := impl.PathParent(path); got != parent {
			t.Errorf("PathParent(%q) = %q, want %q", path, got, parent)
		}
		if got := impl.PathBase(path); got != base {
			t.Errorf("PathBase(%q) = %q, want %q", path, got, base)
		}
	}
	for _, path := range wrongPaths() {
		if parent, base := impl.PathParent(path), impl.PathBase(path); parent != "" || base != "" {
			t.Errorf("of %.40q: parent %.40q, base %.40q, want none", path, parent, base)
		}
	}
}

func TestPathPiecesAreNewMemory(t *testing.T) {
	path := strings.Clone("abc/def/ghi")
	pieces := append(impl.PathNames(path), impl.PathParent(path), impl.PathBase(path), impl.PathRest(path, "abc").Text,
		impl.PathRest(path, "").Text, impl.PathBoth(path, "").Text, impl.PathBoth("", path).Text, impl.PathAt(path, "").Text, impl.PathAt("", path).Text)
	for place, piece := range pieces {
		if piece == "" || sharesMemory(piece, path) {
			t.Errorf("piece %d, %q, is empty or shares memory with what was handed in", place, piece)
		}
	}
	single := strings.Clone("single")
	for _, piece := range []string{impl.PathNames(single)[0], impl.PathBase(single), impl.PathJoin("", single).Text, impl.PathAt("", single).Text} {
		if piece != single || sharesMemory(piece, single) {
			t.Errorf("%q shares memory with what was handed in", piece)
		}
	}
	first, second := impl.PathNames(path), impl.PathNames(path)
	first[0] = "changed"
	if second[0] != "abc" {
		t.Errorf("two answers of PathNames share memory")
	}
}
