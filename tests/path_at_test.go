package tests

import (
	"strings"
	"testing"

	"loop.example/g00449/impl"
)

// walked goes by the words of a text, one by one, as chapter 3 says it.
func walked(base string, text string) impl.TextOut {
	here := split(base)
	if strings.HasPrefix(text, "/") {
		here = nil
	}
	for _, word := range strings.Split(text, "/") {
		switch {
		case word == "" || word == ".":
		case word == "..":
			if len(here) > 0 {
				here = here[:len(here)-1]
			}
		case !impl.NameRight(word):
			return impl.TextOut{Code: impl.ErrSyntax}
		case len(here) == impl.MaxNames:
			return impl.TextOut{Code: impl.ErrFull}
		default:
			here = append(here, word)
		}
	}
	return impl.TextOut{Text: strings.Join(here, "/")}
}

// someTexts are all texts of up to three of these words, with `/` ahead, behind and twice.
func someTexts() []string {
	words := []string{"", ".", "..", "...", "a", "b", "c/d/e", "../..", "A", "a/b/c/d/e/f", longName, longName + "x"}
	var texts []string
	for _, first := range words {
		texts = append(texts, first)
		for _, second := range words {
			texts = append(texts, first+"/"+second)
			for _, third := range words {
				texts = append(texts, first+"/"+second+"/"+third)
			}
		}
	}
	return texts
}

func TestPathAtKnown(t *testing.T) {
	full := "a/b/c/d/e/f"
	known := []struct {
		base, text, want string
		code             int64
	}{
		{"", "", "", impl.OK}, {"a/b", "", "a/b", impl.OK}, {"a/b", ".", "a/b", impl.OK}, {"a/b", "./", "a/b", impl.OK},
		{"a/b", "..", "a", impl.OK}, {"a/b", "../", "a", impl.OK}, {"a/b", "../..", "", impl.OK}, {"a/b", "../../..", "", impl.OK},
		{"", "..", "", impl.OK}, {"", "../a", "a", impl.OK}, {"a", "/..", "", impl.OK}, {"a", "/../b", "b", impl.OK},
		{"a/b", "/", "", impl.OK}, {"a/b", "//", "", impl.OK}, {"a/b", "/.", "", impl.OK}, {"a/b", "/c", "c", impl.OK}, {"a/b", "//c//d//", "c/d", impl.OK},
		{"a/b", "c", "a/b/c", impl.OK}, {"a/b", "c/", "a/b/c", impl.OK}, {"a/b", "c//d", "a/b/c/d", impl.OK}, {"a/b", "./c/../d", "a/b/d", impl.OK},
		{full, "", full, impl.OK}, {full, "../g", "a/b/c/d/e/g", impl.OK}, {full, "/g", "g", impl.OK}, {full, "/" + full, full, impl.OK}, {"", full, full, impl.OK},
		{full, "g", "", impl.ErrFull}, {full, "g/..", "", impl.ErrFull}, {"a", full, "", impl.ErrFull}, {"", full + "/g/../..", "", impl.ErrFull},
		{full, "g/A", "", impl.ErrFull}, {full, "A/g", "", impl.ErrSyntax}, {full, "A", "", impl.ErrSyntax}, {full, "../A", "", impl.ErrSyntax},
		{"a", "A", "", impl.ErrSyntax}, {"a", "A/..", "", impl.ErrSyntax}, {"a", "...", "", impl.ErrSyntax}, {"a", ".a", "", impl.ErrSyntax}, {"a", "a.", "", impl.ErrSyntax},
		{"a", " ", "", impl.ErrSyntax}, {"a", "b /c", "", impl.ErrSyntax}, {"a", "_", "", impl.ErrSyntax}, {"a", "1", "", impl.ErrSyntax}, {"a", "\xff", "", impl.ErrSyntax}, {"a", "\xe2/b", "", impl.ErrSyntax},
		{"a", longName, "a/" + longName, impl.OK}, {"a", longName + "x", "", impl.ErrSyntax},
	}
	for _, k := range known {
		want := impl.TextOut{Text: k.want, Code: k.code}
		if got := impl.PathAt(k.base, k.text); got != want {
			t.Errorf("PathAt(%q, %q) = %+v, want %+v", k.base, k.text, got, want)
		}
	}
}

// Promise 5: what a text makes of a path is a right path.
func TestTextMakesARightPath(t *testing.T) {
	for _, base := range somePaths() {
		for _, text := range someTexts() {
			got := impl.PathAt(base, text)
			if want := walked(base, text); got != want {
				t.Errorf("PathAt(%q, %q) = %+v, want %+v", base, text, got, want)
			}
			if !impl.PathRight(got.Text) {
				t.Errorf("PathAt(%q, %q) = %q is not right", base, text, got.Text)
			}
		}
	}
}

// Promise 5: said in two parts it makes the same. (A first part that is empty, or a second one that
// begins with `/`, is another text when they are put together: that goes from the root.)
func TestTextInTwoPartsMakesTheSame(t *testing.T) {
	for _, base := range somePaths() {
		for _, text := range someTexts() {
			whole := impl.PathAt(base, text)
			for cut := 1; cut < len(text); cut++ {
				if text[cut] != '/' || text[cut+1:] != "" && text[cut+1] == '/' {
					continue
				}
				parts := impl.PathAt(base, text[:cut])
				if parts.Code == impl.OK {
					parts = impl.PathAt(parts.Text, text[cut+1:])
				}
				if parts != whole {
					t.Errorf("from %q by %q: in one %+v, cut at %d %+v", base, text, whole, cut, parts)
				}
			}
		}
	}
}

func TestPathAtOfARightPath(t *testing.T) {
	for _, base := range somePaths() {
		for _, path := range somePaths() {
			if got := impl.PathAt(base, "/"+path); got != (impl.TextOut{Text: path}) {
				t.Errorf("PathAt(%q, /%q) = %+v", base, path, got)
			}
			if got, want := impl.PathAt(base, path), impl.PathBoth(base, path); got != want {
				t.Errorf("PathAt(%q, %q) = %+v, want %+v", base, path, got, want)
			}
		}
	}
}

func TestPathAtRefusesTheBase(t *testing.T) {
	for _, base := range wrongPaths() {
		for _, text := range []string{"", "a", "/a", "/", "..", "A", "a/b/c/d/e/f/g"} {
			if got, want := impl.PathAt(base, text), formOrSize(base, text); got != want {
				t.Errorf("PathAt(%.30q, %q) = %.60v, want %+v", base, text, got, want)
			}
		}
	}
}

func TestPathAtOfLongTexts(t *testing.T) {
	slashes := strings.Repeat("/", impl.MaxBytes)
	dots := strings.Repeat("./", impl.MaxBytes/2)
	ups := strings.Repeat("a/../", impl.MaxBytes/5)
	for _, k := range []struct{ base, text, want string }{
		{"a/b", slashes, ""}, {"a/b", dots, "a/b"}, {"a/b", ups, "a/b"}, {"a/b", slashes[:impl.MaxBytes-1] + "c", "c"},
	} {
		if got := impl.PathAt(k.base, k.text); got != (impl.TextOut{Text: k.want}) {
			t.Errorf("PathAt(%q, %.10q.. of %d bytes) = %+v, want %q", k.base, k.text, len(k.text), got, k.want)
		}
		for _, base := range []string{k.base, "A", tooLong} {
			if got := impl.PathAt(base, k.text+strings.Repeat("/", impl.MaxBytes+1-len(k.text))); got != (impl.TextOut{Code: impl.ErrSize}) {
				t.Errorf("PathAt(%.10q, %.10q.. of one byte more than MaxBytes) = %+v, want ErrSize", base, k.text, got)
			}
		}
	}
	if got := impl.PathAt("a", strings.Repeat("a", impl.MaxBytes)); got != (impl.TextOut{Code: impl.ErrSyntax}) {
		t.Errorf("PathAt of one long word = %+v, want ErrSyntax", got)
	}
	if got := impl.PathAt(strings.Repeat("a", impl.MaxBytes), tooLong); got != (impl.TextOut{Code: impl.ErrSize}) {
		t.Errorf("PathAt of a wrong base and a text that is too long = %+v, want ErrSize", got)
	}
}
