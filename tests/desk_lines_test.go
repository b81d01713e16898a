package tests

import (
	"fmt"
	"slices"
	"strings"
	"testing"

	"loop.example/g00449/impl"
)

// rightLines are one of each word, and some more.
func rightLines() []string {
	return []string{
		"cd a", "read a/x", "list .", "write b w", "mkdir d", "rm b", "touch a", "flat /", "mount a", "umount a", "detach a", "open a/x", "get 3", "put 3 w", "close 3",
		"cd /", "cd ..", "read Q", "write Q Q", "write a/x 7", "put 0 0", "get 0", "get 999999999", "close 100", "read \t", "write a \xff", "list cd", "open get", "mkdir 1",
	}
}

// wrongLines are none of the table's, each for a reason of its own.
func wrongLines() []string {
	all := []string{
		"", " ", "  ", "\t", "\r", "x", "7", "-", "cd", "put", "cd\ta", "cd a\tb c", "cd\u00a0a", "cd  a", " cd a", "cd a ", " cd a ", "cd ", " cd", "cd a  b", "cd\x00a",
		"CD a", "Cd a", "cD a", "READ a", "List a", "mkDir a", "c a", "cdd a", "chdir a", "ls a", "rmdir a", "unmount a", "move a b", "help", "read, a", "read: a", "'read' a", "read\r a", "\ufeffread a",
		"write a", "write a b c", "write a  b", "write  a b", "write a b ", " write a b", "write a ", "write", "writ a b", "WRITE a b",
		"put 1", "put 1 a b", "put 1  a", "put  1 a", "put 1 a ", "put a 1", "put a b", "put 01 a", "put 1000000000 a", "PUT 1 a", "put -1 a", "put 1", "put 1 ",
	}
	for _, word := range deskWords {
		all = append(all, word, word+" ", " "+word, strings.ToUpper(word)+" 1", strings.ToUpper(word)+" 1 w", word+" 1 2 3", word+" 1  2", word+"  1", word+" 1 ", " "+word+" 1", word+"s 1", "x"+word+" 1", word[:len(word)-1]+" 1")
		if word != "write" && word != "put" {
			all = append(all, word+" 1 2")
		}
	}
	for _, number := range wrongNumbers() {
		all = append(all, "get "+number, "close "+number, "put "+number+" w")
	}
	return all
}

// wrongNumbers are words that are no N.
func wrongNumbers() []string {
	return []string{
		"00", "01", "007", "000000000", "0123456789", "000000001", "1000000000", "9999999999", "1234567890", "99999999999999999999", strings.Repeat("9", 100), strings.Repeat("0", 100),
		"-1", "+1", "-0", "+0", "-", "+", "--1", "1-", "1+", "1.0", "1.", ".1", "1e3", "0x1", "0b1", "0o7", "1_000", "_1", "1,0", "a", "1a", "a1", "one", "\t1", "1\r", "\x001", "١", "１", "\xff", "/", ":", "1/", "1:",
	}
}

func TestDeskOfNothing(t *testing.T) {
	deskSays(t, "an empty text", "", impl.DeskOut{})
}

func TestDeskRightLines(t *testing.T) {
	for _, line := range rightLines() {
		text := line + "\n"
		if faultOf(text) != (impl.DeskOut{}) {
			t.Fatalf("%q is not right", line)
		}
		deskSays(t, line, text, impl.DeskOut{Text: linesTo(plainlyTold([]string{line}))})
	}
}

// A line that is none of these is told by its number, wherever it stands, and nothing is told of those ahead of it.
func TestDeskWrongLines(t *testing.T) {
	ahead := []string{"read a/x", "write a/x new", "mount a", "list a"}
	for _, wrong := range wrongLines() {
		for count := range len(ahead) + 1 {
			text := linesTo(ahead[:count]) + wrong + "\n"
			faultAt(t, wrong, text, int64(count))
			faultAt(t, wrong+" ahead of a right one", text+"read a/x\n", int64(count))
			faultAt(t, wrong+" ahead of another wrong one", text+"x\n\n", int64(count))
			faultAt(t, wrong+" without its line feed", strings.TrimSuffix(text, "\n")+"x", int64(count))
		}
	}
}

// Every line that lacks its line feed is at fault, though it be right but for that.
func TestDeskLineFeeds(t *testing.T) {
	for _, line := range append(rightLines(), "x", " ", "cd") {
		for _, ahead := range []string{"", "read a/x\n", "read a/x\nwrite b w\n"} {
			faultAt(t, line, ahead+line, int64(strings.Count(ahead, "\n")))
		}
	}
	for text, line := range map[string]int64{
		"\n": 0, "\n\n": 0, "\nread a\n": 0, "read a\n\n": 1, "read a\n\nread a\n": 1, "read a\n\n\n": 1, "read a\r\n": -1, "read a\r": 0, "read a\n ": 1, "read a\n\r\n": 1, "read a\x00": 0, "read a\x0b": 0, "read\na\n": 0, "read a\nread a": 1, "write a\nb\n": 0,
	} {
		if line < 0 {
			deskTells(t, text, "read a\r", "error 3")
			continue
		}
		faultAt(t, text, text, line)
	}
}

// Just MaxDesk lines may be; one more is at fault, whatever it is, but only if none ahead of it is.
func TestDeskCountOfLines(t *testing.T) {
	for count := range impl.MaxDesk + 1 {
		text := strings.Repeat("read a/x\n", count)
		deskSays(t, count, text, impl.DeskOut{Text: strings.Repeat("in\n", count)})
	}
	full := strings.Repeat("read a/x\n", impl.MaxDesk)
	for _, more := range []string{"read a/x\n", "read a/x", "x\n", "\n", " ", "x", "read a/x\nx\n", strings.Repeat("read a/x\n", 100), strings.Repeat("\n", 1000)} {
		faultAt(t, more, full+more, impl.MaxDesk)
	}
	for place := range impl.MaxDesk {
		lines := slices.Repeat([]string{"read a/x"}, impl.MaxDesk+5)
		lines[place] = "read"
		faultAt(t, place, linesTo(lines), int64(place))
		faultAt(t, place, linesTo(lines[:place+1]), int64(place))
	}
}

// A text of MaxBytes bytes is looked at; of one of more bytes that alone is told, whatever it is.
func TestDeskTextLimits(t *testing.T) {
	pad := func(begin string, with string, end string, size int) string {
		return begin + strings.Repeat(with, size-len(begin)-len(end)) + end
	}
	for _, k := range []struct{ begin, with, end, told string }{
		{"write z ", "w", "\n", "error 1\n"}, {"cd a\nread ", "/", "a/y\n", "ok\nfar\n"}, {"read ", "a", "\n", "error 3\n"}, {"read a/", ".", "\n", "error 3\n"}, {"list ", "/", "\nread a/x\n", "a\nin\n"}, {"open a/x\nput 2 ", "w", "\nget 2\n", "handle 2\nerror 1\nin\n"},
	} {
		for _, size := range []int{impl.MaxBytes - 1, impl.MaxBytes} {
			deskSays(t, k.begin, pad(k.begin, k.with, k.end, size), impl.DeskOut{Text: k.told})
		}
		for _, size := range []int{impl.MaxBytes + 1, impl.MaxBytes + 2, 2 * impl.MaxBytes} {
			deskSays(t, k.begin, pad(k.begin, k.with, k.end, size), impl.DeskOut{Code: impl.ErrSize})
		}
	}
	for _, with := range []string{"\n", " ", "x", "\x00", "read a/x\n", "cd\n"} {
		text := strings.Repeat(with, impl.MaxBytes/len(with)+1)
		deskSays(t, with, text[:impl.MaxBytes+1], impl.DeskOut{Code: impl.ErrSize})
		if with != "read a/x\n" {
			faultAt(t, with, text[:impl.MaxBytes], 0)
		} else {
			faultAt(t, with, text[:impl.MaxBytes], impl.MaxDesk)
		}
	}
	deskSays(t, "all bytes", allBytes(impl.MaxBytes+1), impl.DeskOut{Code: impl.ErrSize})
}

// N has up to nine digits; no handle has so great a number, so that they tell of none.
func TestDeskNumbers(t *testing.T) {
	for _, number := range []string{"0", "1", "9", "10", "90", "100000000", "123456789", "999999999"} {
		deskTells(t, number, "get "+number, "error 6", "put "+number+" w", "error 6", "close "+number, "error 6")
	}
	opened := []string{}
	for id := 2; id < 10; id++ {
		opened = append(opened, "open a/x", fmt.Sprint("handle ", id), fmt.Sprint("close ", id), "ok")
	}
	deskTells(t, "two digits", append(opened, "open a/y", "handle 10", "get 10", "far", "get 1", "error 6", "put 10 w", "ok", "read a/y", "w", "close 1", "error 6", "close 10", "ok", "get 10", "error 6")...)
	for _, number := range wrongNumbers() {
		for _, line := range []string{"get " + number, "close " + number, "put " + number + " w"} {
			faultAt(t, line, line+"\n", 0)
			faultAt(t, line, "open a/x\n"+line+"\n", 1)
		}
	}
}

// Any byte but a blank and a line feed may stand in a word.
func TestDeskBytesOfWords(t *testing.T) {
	for b := range 256 {
		word := string([]byte{'w', byte(b), 'w'})
		alone := string([]byte{byte(b)})
		switch b {
		case ' ':
			faultAt(t, b, "write z "+word+"\n", 0)
			faultAt(t, b, "write z "+alone+"\n", 0)
		case '\n':
			faultAt(t, b, "write z "+word+"\n", 1)
			faultAt(t, b, "write z "+alone+"\n", 0)
		default:
			deskTells(t, word, "write z "+word, "ok", "read z", word, "write z "+alone, "ok", "read z", alone)
		}
	}
}

// spoiled is a text with a few bytes changed, taken away or put in.
func (d *dice) spoiled(text string) string {
	bytes := "  \n\n\r\tacdxQ/.019-"
	for range 1 + d.below(3) {
		place := d.below(len(text) + 1)
		put := string(bytes[d.below(len(bytes))])
		switch behind := min(place+1, len(text)); d.below(3) {
		case 0:
			text = text[:place] + put + text[place:]
		case 1:
			text = text[:place] + text[behind:]
		default:
			text = text[:place] + put + text[behind:]
		}
	}
	return text
}

// Many texts that are nearly right: each is told as the words of the document say it.
func TestDeskFaultsAgainstTheWordsOfTheDocument(t *testing.T) {
	t.Parallel()
	d := dice{state: 29}
	lines := rightLines()
	right, wrong := 0, map[int64]int{}
	for range 6000 {
		some := []string{}
		for range d.below(8) {
			some = append(some, lines[d.below(len(lines))])
		}
		text := d.spoiled(linesTo(some))
		want := faultOf(text)
		if want.Code == impl.OK {
			right++
			want.Text = linesTo(plainlyTold(strings.Split(strings.TrimSuffix(text, "\n"), "\n")[:strings.Count(text, "\n")]))
		} else {
			wrong[want.Line]++
		}
		deskSays(t, "nearly right", text, want)
	}
	if right < 500 || wrong[0] < 100 || wrong[3] < 100 || wrong[6] < 50 {
		t.Errorf("%d were right, wrong ones were at %v", right, wrong)
	}
}
