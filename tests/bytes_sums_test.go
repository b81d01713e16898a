package tests

import (
	"encoding/binary"
	"hash/crc32"
	"math"
	"strings"
	"testing"

	"loop.example/g00449/impl"
)

// mostSealed is the length of the longest text that has room for its CRC.
const mostSealed = impl.MaxBytes - 4

func sumOf(text string) int64 {
	return int64(crc32.ChecksumIEEE([]byte(text)))
}

func TestCrcKnown(t *testing.T) {
	known := []struct {
		text string
		want int64
	}{
		{"", 0}, {"123456789", 0xcbf43926}, {"a", 0xe8b7be43}, {"\x00", 0xd202ef8d}, {"\xff\xff\xff\xff", 0xffffffff},
	}
	for _, k := range known {
		if got := impl.Crc(k.text); got != k.want {
			t.Errorf("Crc(%q) = %d, want %d", k.text, got, k.want)
		}
	}
}

func TestCrcOfAllBytes(t *testing.T) {
	for b := range 256 {
		one := string([]byte{byte(b)})
		if got, want := impl.Crc(one), sumOf(one); got != want {
			t.Errorf("Crc(%q) = %d, want %d", one, got, want)
		}
	}
	for _, size := range []int{2, 3, 255, 1000, impl.MaxBytes - 1, impl.MaxBytes} {
		if got, want := impl.Crc(allBytes(size)), sumOf(allBytes(size)); got != want {
			t.Errorf("Crc of %d bytes = %d, want %d", size, got, want)
		}
	}
}

// Promise 2: a CRC goes on from text to text.
func TestCrcGoesOn(t *testing.T) {
	whole := allBytes(300)
	for size := range len(whole) + 1 {
		if got, want := impl.CrcMore(impl.Crc(whole[:size]), whole[size:]), impl.Crc(whole); got != want {
			t.Errorf("cut at %d: CrcMore = %d, want %d", size, got, want)
		}
	}
	parts := []string{"one", "", "two", "\x00", "three"}
	crc := impl.Crc("")
	for place, part := range parts {
		crc = impl.CrcMore(crc, part)
		if want := sumOf(strings.Join(parts[:place+1], "")); crc != want {
			t.Errorf("part %d: CrcMore = %d, want %d", place, crc, want)
		}
	}
}

// Both texts together may be longer than MaxBytes: only one of them is handed in.
func TestCrcGoesOnPastMaxBytes(t *testing.T) {
	most := allBytes(impl.MaxBytes)
	if got, want := impl.CrcMore(impl.Crc(most), most), sumOf(most+most); got != want {
		t.Errorf("CrcMore = %d, want %d", got, want)
	}
}

func TestCrcLimits(t *testing.T) {
	over := allBytes(impl.MaxBytes + 1)
	if got := impl.Crc(over); got != 0 {
		t.Errorf("Crc of MaxBytes+1 bytes = %d, want 0", got)
	}
	cases := []struct {
		crc  int64
		text string
		want int64
	}{
		{-1, "a", 0}, {-1, "", 0}, {1 << 32, "a", 0}, {1 << 32, "", 0},
		{math.MinInt64, "a", 0}, {math.MaxInt64, "a", 0}, {7, over, 0}, {-1, over, 0},
		{0, "", 0}, {7, "", 7}, {1 << 31, "", 1 << 31}, {math.MaxUint32, "", math.MaxUint32},
		{math.MaxUint32, "a", int64(crc32.Update(math.MaxUint32, crc32.IEEETable, []byte("a")))},
	}
	for _, c := range cases {
		if got := impl.CrcMore(c.crc, c.text); got != c.want {
			t.Errorf("CrcMore(%d, %d bytes) = %d, want %d", c.crc, len(c.text), got, c.want)
		}
	}
}

// Promise 2: a sealed text comes back.
func TestSealedTextsComeBack(t *testing.T) {
	for _, size := range []int{0, 1, 3, 4, 5, 100, 300, mostSealed - 1, mostSealed} {
		text := allBytes(size)
		sealed := impl.Seal(text)
		want := text + string(binary.LittleEndian.AppendUint32(nil, uint32(sumOf(text))))
		if sealed != want {
			t.Errorf("Seal of %d bytes is not it and its CRC", size)
		}
		if got := impl.Unseal(sealed); got != (impl.TextOut{Text: text}) {
			t.Errorf("a sealed text of %d bytes does not come back: Code %d, At %d", size, got.Code, got.At)
		}
	}
	if got := impl.Seal("123456789"); got != "123456789\x26\x39\xf4\xcb" {
		t.Errorf("Seal(\"123456789\") = %q", got)
	}
}

func TestSealLimit(t *testing.T) {
	for _, size := range []int{mostSealed + 1, impl.MaxBytes, impl.MaxBytes + 1} {
		if got := impl.Seal(allBytes(size)); got != "" {
			t.Errorf("Seal of %d bytes has %d bytes, want none", size, len(got))
		}
	}
}

// Promise 2: with one byte turned it is refused.
func TestSealWithOneByteTurned(t *testing.T) {
	for _, text := range []string{"", "a", "\x00\x00", "ab\xffcd", allBytes(40)} {
		sealed := impl.Seal(text)
		for place := range len(sealed) {
			for turn := 1; turn < 256; turn++ {
				turned := []byte(sealed)
				turned[place] ^= byte(turn)
				if got := impl.Unseal(string(turned)); got != (impl.TextOut{Code: impl.ErrSum}) {
					t.Fatalf("Unseal(%q) = %+v, want ErrSum alone", turned, got)
				}
			}
		}
	}
}

func TestUnsealRefuses(t *testing.T) {
	cases := []struct {
		what string
		text string
		code int64
	}{
		{"nothing", "", impl.ErrShort},
		{"one byte", "\x00", impl.ErrShort},
		{"three bytes", "\x00\x00\x00", impl.ErrShort},
		{"four bytes, not 0", "\x00\x00\x00\x01", impl.ErrSum},
		{"the last byte is missing", impl.Seal("ab")[:5], impl.ErrSum},
		{"one byte behind it", impl.Seal("ab") + "\x00", impl.ErrSum},
		{"the CRC the highest byte first", "123456789\xcb\xf4\x39\x26", impl.ErrSum},
		{"MaxBytes bytes of 1", strings.Repeat("\x01", impl.MaxBytes), impl.ErrSum},
		{"too long", strings.Repeat("\x00", impl.MaxBytes+1), impl.ErrSize},
		{"too long, with a right CRC", sealedOver(), impl.ErrSize},
	}
	for _, c := range cases {
		if got := impl.Unseal(c.text); got != (impl.TextOut{Code: c.code}) {
			t.Errorf("%s: Unseal = Code %d, At %d, %d bytes, want code %d alone", c.what, got.Code, got.At, len(got.Text), c.code)
		}
	}
	if got := impl.Unseal("\x00\x00\x00\x00"); got != (impl.TextOut{}) {
		t.Errorf("Unseal of the sealed empty text = %+v", got)
	}
}

// sealedOver would be a seal, were it not one byte too long.
func sealedOver() string {
	text := allBytes(mostSealed + 1)
	return text + string(binary.LittleEndian.AppendUint32(nil, uint32(sumOf(text))))
}

func TestUnsealIsNewMemory(t *testing.T) {
	sealed := strings.Clone(impl.Seal(allBytes(100)))
	if sharesMemory(impl.Unseal(sealed).Text, sealed) {
		t.Error("Unseal hands back memory of its argument")
	}
}
