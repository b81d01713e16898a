package tests

import (
	"encoding/binary"
	"math"
	"strings"
	"testing"
	"unsafe"

	"loop.example/g00449/impl"
)

// someNumbers has the edges of int64, of each count of bytes, and a spread of others.
func someNumbers() []int64 {
	all := []int64{0, 1, -1, 2, -2, 63, 64, -64, -65, math.MaxInt64, math.MaxInt64 - 1, math.MinInt64, math.MinInt64 + 1}
	for bit := range 63 {
		power := int64(1) << bit
		all = append(all, power-1, power, power+1, -power-1, -power, -power+1)
	}
	spread := uint64(1)
	for range 500 {
		spread = spread*6364136223846793005 + 1442695040888963407
		all = append(all, int64(spread), int64(spread)>>(spread>>58))
	}
	return all
}

// allBytes is a text of that length; from 256 bytes on every byte stands in it.
func allBytes(size int) string {
	var b strings.Builder
	for place := range size {
		b.WriteByte(byte(place*7 + place/256))
	}
	return b.String()
}

// sharesMemory: is some of piece's memory whole's?
func sharesMemory(piece string, whole string) bool {
	first := uintptr(unsafe.Pointer(unsafe.StringData(whole)))
	start := uintptr(unsafe.Pointer(unsafe.StringData(piece)))
	return start < first+uintptr(len(whole)) && first < start+uintptr(len(piece))
}

// Promise 1: numbers come back from their bytes.
func TestNumbersComeBack(t *testing.T) {
	for _, n := range someNumbers() {
		text := impl.PutNum(n)
		want := impl.NumOut{N: n, At: int64(len(text))}
		if got := impl.GetNum(text, 0); got != want {
			t.Errorf("GetNum(%q, 0) = %+v, want %+v", text, got, want)
		}
		want.At += 3
		if got := impl.GetNum("\xff\x80\x00"+text+"\x81\x00", 3); got != want {
			t.Errorf("GetNum of %q in the midst = %+v, want %+v", text, got, want)
		}
	}
}

func TestPutNumBytes(t *testing.T) {
	for _, n := range someNumbers() {
		if got, want := impl.PutNum(n), string(binary.AppendVarint(nil, n)); got != want {
			t.Errorf("PutNum(%d) = %q, want %q", n, got, want)
		}
	}
}

// Of each count of bytes the numbers with the least and the greatest u.
func TestPutNumCounts(t *testing.T) {
	for count := 1; count <= 9; count++ {
		edge := int64(1) << (7*count - 1)
		for _, n := range []int64{edge - 1, -edge} {
			if got := len(impl.PutNum(n)); got != count {
				t.Errorf("PutNum(%d) has %d bytes, want %d", n, got, count)
			}
		}
		for _, n := range []int64{edge, -edge - 1} {
			if got := len(impl.PutNum(n)); got != count+1 {
				t.Errorf("PutNum(%d) has %d bytes, want %d", n, got, count+1)
			}
		}
	}
}

func TestPutNumKnown(t *testing.T) {
	nine := strings.Repeat("\xff", 9)
	known := []struct {
		n    int64
		text string
	}{
		{0, "\x00"}, {-1, "\x01"}, {1, "\x02"}, {63, "\x7e"}, {-64, "\x7f"}, {64, "\x80\x01"}, {-65, "\x81\x01"},
		{math.MaxInt64, "\xfe" + nine[1:] + "\x01"}, {math.MinInt64, nine + "\x01"},
	}
	for _, k := range known {
		if got := impl.PutNum(k.n); got != k.text {
			t.Errorf("PutNum(%d) = %q, want %q", k.n, got, k.text)
		}
		want := impl.NumOut{N: k.n, At: int64(len(k.text))}
		if got := impl.GetNum(k.text, 0); got != want {
			t.Errorf("GetNum(%q, 0) = %+v, want %+v", k.text, got, want)
		}
	}
}

func TestNumbersThatEndEarly(t *testing.T) {
	for _, n := range someNumbers() {
		text := impl.PutNum(n)
		for size := range len(text) {
			want := impl.NumOut{Code: impl.ErrShort}
			if got := impl.GetNum(text[:size], 0); got != want {
				t.Errorf("GetNum(%q, 0) = %+v, want %+v", text[:size], got, want)
			}
		}
	}
}

func TestGetNumRefuses(t *testing.T) {
	on := strings.Repeat("\x80", 9)
	nine := strings.Repeat("\xff", 9)
	full := strings.Repeat("\x00", impl.MaxBytes)
	cases := []struct {
		what string
		text string
		at   int64
		code int64
	}{
		{"too long", full + "\x00", 0, impl.ErrSize},
		{"too long, place below 0", full + "\x00", -1, impl.ErrSize},
		{"too long, place behind the end", full + "\x00", math.MaxInt64, impl.ErrSize},
		{"place below 0", "\x00", -1, impl.ErrForm},
		{"place far below 0", "\x00", math.MinInt64, impl.ErrForm},
		{"place below 0 of nothing", "", -1, impl.ErrForm},
		{"place below 0 of a wrong number", "\x80\x00", -1, impl.ErrForm},
		{"nothing", "", 0, impl.ErrShort},
		{"place at the end", "\x00\x00", 2, impl.ErrShort},
		{"place at the end of the longest text", full, impl.MaxBytes, impl.ErrShort},
		{"place behind the end", "\x00\x00", 3, impl.ErrShort},
		{"place far behind the end", "\x00\x00", math.MaxInt64, impl.ErrShort},
		{"one byte that goes on", "\x80", 0, impl.ErrShort},
		{"nine bytes that go on", on, 0, impl.ErrShort},
		{"nine full bytes that go on", nine, 0, impl.ErrShort},
		{"nine bytes that go on, behind others", "ab" + nine, 2, impl.ErrShort},
		{"tenth byte 2", nine + "\x02", 0, impl.ErrSyntax},
		{"tenth byte 127", nine + "\x7f", 0, impl.ErrSyntax},
		{"tenth byte goes on", nine + "\x80", 0, impl.ErrSyntax},
		{"tenth byte 129", nine + "\x81\x00", 0, impl.ErrSyntax},
		{"tenth byte full, more behind it", nine + "\xff\x01", 0, impl.ErrSyntax},
		{"tenth byte 0", nine + "\x00", 0, impl.ErrSyntax},
		{"0 in two bytes", "\x80\x00", 0, impl.ErrSyntax},
		{"0 in two bytes, behind another", "\x00\x80\x00", 1, impl.ErrSyntax},
		{"-64 in two bytes", "\xff\x00", 0, impl.ErrSyntax},
		{"64 in three bytes", "\x80\x81\x00", 0, impl.ErrSyntax},
		{"0 in ten bytes", on + "\x00", 0, impl.ErrSyntax},
	}
	for _, c := range cases {
		want := impl.NumOut{Code: c.code}
		if got := impl.GetNum(c.text, c.at); got != want {
			t.Errorf("%s: GetNum = %+v, want %+v", c.what, got, want)
		}
	}
}

// Every count of bytes with a needless last one is refused, and so is every tenth byte but 1.
func TestGetNumOneWayOnly(t *testing.T) {
	for count := 1; count <= 9; count++ {
		text := strings.Repeat("\x85", count) + "\x00"
		if got := impl.GetNum(text, 0); got != (impl.NumOut{Code: impl.ErrSyntax}) {
			t.Errorf("GetNum(%q, 0) = %+v", text, got)
		}
	}
	for tenth := range 256 {
		text := strings.Repeat("\x80", 9) + string([]byte{byte(tenth)})
		want := impl.NumOut{Code: impl.ErrSyntax}
		if tenth == 1 {
			want = impl.NumOut{N: 1 << 62, At: 10}
		}
		if got := impl.GetNum(text, 0); got != want {
			t.Errorf("GetNum(%q, 0) = %+v, want %+v", text, got, want)
		}
	}
}

func TestGetNumInTheLongestText(t *testing.T) {
	full := strings.Repeat("\x05", impl.MaxBytes)
	want := impl.NumOut{N: -3, At: impl.MaxBytes}
	if got := impl.GetNum(full, impl.MaxBytes-1); got != want {
		t.Errorf("the last byte: GetNum = %+v, want %+v", got, want)
	}
}
