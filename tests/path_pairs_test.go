package tests

import (
	"slices"
	"strings"
	"testing"

	"loop.example/g00449/impl"
)

// startsWith: does path begin with all names of top?
func startsWith(path string, top string) bool {
	all, above := split(path), split(top)
	return len(above) <= len(all) && slices.Equal(all[:len(above)], above)
}

func TestPathUnder(t *testing.T) {
	for _, path := range somePaths() {
		for _, top := range somePaths() {
			if got, want := impl.PathUnder(path, top), startsWith(path, top); got != want {
				t.Errorf("PathUnder(%q, %q) = %v, want %v", path, top, got, want)
			}
		}
	}
	known := []struct {
		path, top string
		want      bool
	}{
		{"", "", true}, {"a", "", true}, {"", "a", false}, {"a", "a", true}, {"ab", "a", false}, {"a/b", "a", true},
		{"a", "a/b", false}, {"a/bc", "a/b", false}, {"a/b/c", "a/b", true}, {"b/a", "a", false}, {"a_/b", "a", false},
	}
	for _, k := range known {
		if got := impl.PathUnder(k.path, k.top); got != k.want {
			t.Errorf("PathUnder(%q, %q) = %v, want %v", k.path, k.top, got, k.want)
		}
	}
}

// Promise 4: what a path has behind another one, put behind that, is the path.
func TestRestPutBehindIsThePath(t *testing.T) {
	for _, path := range somePaths() {
		for _, top := range somePaths() {
			rest := impl.PathRest(path, top)
			if !startsWith(path, top) {
				if rest != (impl.TextOut{Code: impl.ErrNone}) {
					t.Errorf("PathRest(%q, %q) = %+v, want ErrNone", path, top, rest)
				}
				continue
			}
			want := impl.TextOut{Text: strings.Join(split(path)[len(split(top)):], "/")}
			if rest != want {
				t.Errorf("PathRest(%q, %q) = %+v, want %+v", path, top, rest, want)
			}
			if got := impl.PathBoth(top, rest.Text); got != (impl.TextOut{Text: path}) {
				t.Errorf("PathBoth(%q, %q) = %+v, want %q", top, rest.Text, got, path)
			}
		}
	}
}

func TestPathBoth(t *testing.T) {
	for _, top := range somePaths() {
		for _, path := range somePaths() {
			all := append(split(top), split(path)...)
			want := impl.TextOut{Text: strings.Join(all, "/")}
			if len(all) > impl.MaxNames {
				want = impl.TextOut{Code: impl.ErrFull}
			}
			got := impl.PathBoth(top, path)
			if got != want {
				t.Errorf("PathBoth(%q, %q) = %+v, want %+v", top, path, got, want)
			}
			if got.Code == impl.OK && impl.PathRest(got.Text, top) != (impl.TextOut{Text: path}) {
				t.Errorf("PathRest(%q, %q) is not %q", got.Text, top, path)
			}
		}
	}
}

// formOrSize is the code of two texts of which one at least is no path.
func formOrSize(a string, b string) impl.TextOut {
	if len(a) > impl.MaxBytes || len(b) > impl.MaxBytes {
		return impl.TextOut{Code: impl.ErrSize}
	}
	return impl.TextOut{Code: impl.ErrForm}
}

func TestPairsOfPathsRefuse(t *testing.T) {
	others := append(wrongPaths(), "", "a", "b/a", "a/b/c/d/e/f")
	for _, wrong := range wrongPaths() {
		for _, other := range others {
			for _, pair := range [][2]string{{wrong, other}, {other, wrong}} {
				want := formOrSize(pair[0], pair[1])
				if got := impl.PathRest(pair[0], pair[1]); got != want {
					t.Errorf("PathRest(%.30q, %.30q) = %.60v, want %+v", pair[0], pair[1], got, want)
				}
				if got := impl.PathBoth(pair[0], pair[1]); got != want {
					t.Errorf("PathBoth(%.30q, %.30q) = %.60v, want %+v", pair[0], pair[1], got, want)
				}
				if impl.PathUnder(pair[0], pair[1]) || impl.PathLess(pair[0], pair[1]) {
					t.Errorf("%.30q is under or ahead of %.30q, though one is not right", pair[0], pair[1])
				}
			}
		}
	}
}

func TestPathLess(t *testing.T) {
	for _, a := range somePaths() {
		for _, b := range somePaths() {
			if got, want := impl.PathLess(a, b), slices.Compare(split(a), split(b)) < 0; got != want {
				t.Errorf("PathLess(%q, %q) = %v, want %v", a, b, got, want)
			}
		}
	}
}

// By names, not by bytes: a digit or `_` behind a name stands behind all that is under that name.
func TestPathLessGoesNameByName(t *testing.T) {
	rising := []string{"", "a", "a/a", "a/a/z", "a/b", "a/zz", "a0", "a0/a", "a_", "a_/a", "aa", "aa/a", "ab", "b", "b/a", "z"}
	for first, a := range rising {
		for second, b := range rising {
			if got, want := impl.PathLess(a, b), first < second; got != want {
				t.Errorf("PathLess(%q, %q) = %v, want %v", a, b, got, want)
			}
		}
	}
}
