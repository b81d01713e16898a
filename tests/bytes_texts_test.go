package tests

import (
	"math"
	"strings"
	"testing"

	"loop.example/g00449/impl"
)

// mostText is the length of the longest text that fits, with its length ahead of it, into MaxBytes.
const mostText = impl.MaxBytes - 2

// Promise 1: texts that fit in come back from their bytes.
func TestTextsComeBack(t *testing.T) {
	for _, size := range []int{0, 1, 2, 63, 64, 255, 256, 300, 4095, mostText - 1, mostText} {
		whole := allBytes(size)
		text := impl.PutText(whole)
		want := impl.TextOut{Text: whole, At: int64(len(text))}
		if got := impl.GetText(text, 0); got != want {
			t.Errorf("a text of %d bytes does not come back: Code %d, At %d", size, got.Code, got.At)
		}
	}
}

func TestTextsComeBackFromAPlace(t *testing.T) {
	ahead := impl.PutText("first") + impl.PutNum(-9)
	for size := range 200 {
		whole := allBytes(size)
		text := impl.PutText(whole)
		want := impl.TextOut{Text: whole, At: int64(len(ahead) + len(text))}
		if got := impl.GetText(ahead+text+"\x80\x00", int64(len(ahead))); got != want {
			t.Errorf("a text of %d bytes in the midst: %+v, want %+v", size, got, want)
		}
	}
}

func TestPutTextBytes(t *testing.T) {
	known := []struct{ text, want string }{
		{"", "\x00"}, {"a", "\x02a"}, {"ab", "\x04ab"}, {"\x00\xff", "\x04\x00\xff"},
		{strings.Repeat("a", 63), "\x7e" + strings.Repeat("a", 63)},
		{strings.Repeat("a", 64), "\x80\x01" + strings.Repeat("a", 64)},
	}
	for _, k := range known {
		if got := impl.PutText(k.text); got != k.want {
			t.Errorf("PutText(%q) = %q, want %q", k.text, got, k.want)
		}
	}
}

// MaxBytes limits the text that is put, not what is made of it.
func TestPutTextLimit(t *testing.T) {
	most := allBytes(impl.MaxBytes)
	if got := impl.PutText(most); got != "\x80\x7d"+most {
		t.Errorf("PutText of MaxBytes bytes has %d bytes, want %d", len(got), len(most)+2)
	}
	if got := impl.PutText(most + "a"); got != "" {
		t.Errorf("PutText of one byte more has %d bytes, want none", len(got))
	}
	if got := impl.GetText(impl.PutText(most), 0); got != (impl.TextOut{Code: impl.ErrSize}) {
		t.Errorf("GetText of it: Code %d, At %d, want ErrSize alone", got.Code, got.At)
	}
}

func TestTextsThatEndEarly(t *testing.T) {
	text := impl.PutText(allBytes(100))
	for size := range len(text) {
		if got := impl.GetText(text[:size], 0); got != (impl.TextOut{Code: impl.ErrShort}) {
			t.Errorf("GetText of the first %d bytes = %+v, want ErrShort alone", size, got)
		}
	}
}

func TestGetTextRefuses(t *testing.T) {
	nine := strings.Repeat("\xff", 9)
	full := strings.Repeat("\x00", impl.MaxBytes)
	cases := []struct {
		what string
		text string
		at   int64
		code int64
	}{
		{"too long", full + "\x00", 0, impl.ErrSize},
		{"too long, place below 0", full + "\x00", -1, impl.ErrSize},
		{"place below 0", "\x04ab", -1, impl.ErrForm},
		{"place far below 0", "\x04ab", math.MinInt64, impl.ErrForm},
		{"place below 0 of nothing", "", -1, impl.ErrForm},
		{"nothing", "", 0, impl.ErrShort},
		{"place at the end", "\x04ab", 3, impl.ErrShort},
		{"place behind the end", "\x04ab", 4, impl.ErrShort},
		{"place far behind the end", "\x04ab", math.MaxInt64, impl.ErrShort},
		{"length that ends early", "\x84", 0, impl.ErrShort},
		{"length of nine bytes that ends early", nine, 0, impl.ErrShort},
		{"length with a byte too many", "\x84\x00ab", 0, impl.ErrSyntax},
		{"length with a tenth byte above 1", nine + "\x02ab", 0, impl.ErrSyntax},
		{"length -1", impl.PutNum(-1) + "ab", 0, impl.ErrSyntax},
		{"length -1, nothing behind it", impl.PutNum(-1), 0, impl.ErrSyntax},
		{"least length", impl.PutNum(math.MinInt64) + "ab", 0, impl.ErrSyntax},
		{"greatest length", impl.PutNum(math.MaxInt64) + "ab", 0, impl.ErrSyntax},
		{"length one above MaxBytes", impl.PutNum(impl.MaxBytes+1) + "ab", 0, impl.ErrSyntax},
		{"length MaxBytes, too few behind it", impl.PutNum(impl.MaxBytes) + "ab", 0, impl.ErrShort},
		{"length MaxBytes, all that may be behind it", impl.PutNum(impl.MaxBytes) + full[:mostText], 0, impl.ErrShort},
		{"one byte too few", "\x06ab", 0, impl.ErrShort},
		{"one byte too few from a place", "x\x06ab", 1, impl.ErrShort},
		{"nothing behind the length", "\x02", 0, impl.ErrShort},
	}
	for _, c := range cases {
		if got := impl.GetText(c.text, c.at); got != (impl.TextOut{Code: c.code}) {
			t.Errorf("%s: GetText = %+v, want code %d alone", c.what, got, c.code)
		}
	}
}

func TestGetTextIsNewMemory(t *testing.T) {
	text := strings.Clone(impl.PutText(allBytes(100)))
	if sharesMemory(impl.GetText(text, 0).Text, text) {
		t.Error("GetText hands back memory of its argument")
	}
}

func TestNameRight(t *testing.T) {
	cases := []struct {
		text string
		want bool
	}{
		{"", false}, {"a", true}, {"z", true}, {"_", false}, {"0", false}, {"9a", false}, {"_a", false},
		{"a_9", true}, {"a0", true}, {"z_", true}, {"aZ", false}, {"A", false}, {"a b", false}, {" a", false},
		{"a/b", false}, {"a.b", false}, {"a\n", false}, {"a\x00", false}, {"\u00e4", false}, {"a\u00e4", false},
		{strings.Repeat("a", 20), true}, {strings.Repeat("a", 21), false},
		{"a" + strings.Repeat("_", 19), true}, {"a" + strings.Repeat("9", 20), false},
		{strings.Repeat("a", 19) + "-", false},
		{strings.Repeat("a", impl.MaxBytes), false}, {strings.Repeat("a", impl.MaxBytes+1), false},
	}
	for _, c := range cases {
		if got := impl.NameRight(c.text); got != c.want {
			t.Errorf("NameRight(%q) = %v, want %v", c.text, got, c.want)
		}
	}
}

// Every byte as the first one, and behind a right one.
func TestNameBytes(t *testing.T) {
	const first = "abcdefghijklmnopqrstuvwxyz"
	for b := range 256 {
		one := string([]byte{byte(b)})
		if got, want := impl.NameRight(one), strings.Contains(first, one); got != want {
			t.Errorf("NameRight(%q) = %v, want %v", one, got, want)
		}
		if got, want := impl.NameRight("m"+one), strings.Contains(first+"0123456789_", one); got != want {
			t.Errorf("NameRight(%q) = %v, want %v", "m"+one, got, want)
		}
	}
}
