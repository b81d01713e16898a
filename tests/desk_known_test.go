package tests

import (
	"fmt"
	"slices"
	"strings"
	"testing"

	"loop.example/g00449/impl"
)

// deskWords are the words of the table, as chapter 11 has them, in order.
var deskWords = []string{"cd", "close", "detach", "flat", "get", "list", "mkdir", "mount", "open", "put", "read", "rm", "touch", "umount", "write"}

func TestDeskWordsKnown(t *testing.T) {
	got := impl.DeskWords()
	if !slices.Equal(got, deskWords) || !slices.IsSorted(got) {
		t.Fatalf("DeskWords() = %q, want %q", got, deskWords)
	}
	for _, word := range got {
		right := 0
		for _, rest := range []string{" a", " a b", " 1", " 1 b"} {
			if impl.DeskFault(word+rest+"\n").Code == impl.OK {
				right++
			}
		}
		if right == 0 {
			t.Errorf("no line begins with %q", word)
		}
	}
}

func TestDeskCd(t *testing.T) {
	deskTells(t, "into a directory, and up", "cd a", "ok", "list .", "x,y", "read x", "in", "cd ..", "ok", "list .", "a", "read x", "error 6", "read a/x", "in")
	deskTells(t, "beyond the root", "cd ..", "ok", "list .", "a", "cd ../../..", "ok", "read a/x", "in", "cd a/../../../a", "ok", "read x", "in", "read /../../a/y", "far", "read ../../../../a/y", "far")
	deskTells(t, "by an absolute path", "cd a", "ok", "cd /a", "ok", "read x", "in", "read /a/x", "in", "cd /", "ok", "list .", "a", "cd //a//", "ok", "list .", "x,y", "cd /.", "ok", "list /", "a")
	deskTells(t, "nowhere", "cd ./.", "ok", "list .", "a", "cd a/.", "ok", "cd .", "ok", "list ./", "x,y")
	deskTells(t, "where nothing is", "cd q/r/s", "ok", "list .", "error 6", "read .", "error 6", "read x", "error 6", "list ../../../a", "x,y", "write x w", "error 6", "mkdir .", "error 6", "cd ..", "ok", "cd ..", "ok", "mkdir .", "ok", "mkdir r", "ok", "cd r", "ok", "list .", "-", "list /q", "r")
	deskTells(t, "to a file", "cd a/x", "ok", "read .", "in", "list .", "error 12", "write y w", "error 12", "list ..", "x,y", "read ../y", "far")
	deskTells(t, "to what goes meanwhile", "mkdir d", "ok", "cd d", "ok", "list .", "-", "rm .", "ok", "list .", "error 6", "rm ../d", "error 6", "mkdir ../d", "ok", "list .", "-")
	deskTells(t, "refused, it stays", "cd a", "ok", "cd Q", "error 3", "list .", "x,y", "cd b/c/d/e/f/g", "error 9", "list .", "x,y", "cd ../Q", "error 3", "list .", "x,y", "cd b/c/d/e/f", "ok", "list .", "error 6", "cd g", "error 9", "cd g/..", "error 9", "cd ..", "ok", "cd g", "ok", "cd /a", "ok", "list .", "x,y")
}

func TestDeskRead(t *testing.T) {
	deskTells(t, "files", "read a/x", "in", "read a/y", "far", "read /a/x", "in", "read a/./x", "in", "read a/../a/x", "in")
	deskTells(t, "no files", "read /", "error 11", "read .", "error 11", "read a", "error 11", "read q", "error 6", "read a/q", "error 6", "read a/x/q", "error 6")
	deskTells(t, "in what is mounted", "mount a", "inst 2", "read a", "error 11", "read a/x", "error 6", "read a/a/x", "in", "read a/a", "error 11", "read a/a/y", "far")
}

// What is written is told as it stands, what looks like nothing too.
func TestDeskReadWritten(t *testing.T) {
	deskTells(t, "a stroke", "write a/x -", "ok", "read a/x", "-", "write z ,", "ok", "read z", ",", "list .", "a,z", "write z error", "ok", "read z", "error")
	for _, data := range []string{"0", "ok", "a/b", "\t", "\r", "\x00", "\x7f", "\x80\xff", "\xc2\xa0", "é", "\xe2\x80\xa8", strings.Repeat("w", 60)} {
		deskTells(t, data, "write a/x "+data, "ok", "read a/x", data, "open a/x", "handle 2", "get 2", data, "put 2 "+data, "ok", "read a/x", data)
	}
}

func TestDeskList(t *testing.T) {
	deskTells(t, "directories", "list /", "a", "list .", "a", "list a", "x,y", "list a/", "x,y", "list a/..", "a")
	deskTells(t, "none in it", "mkdir d", "ok", "list d", "-", "rm a/x", "ok", "list a", "y", "rm a/y", "ok", "list a", "-", "rm a", "ok", "list /", "d", "rm d", "ok", "list /", "-")
	deskTells(t, "no directories", "list a/x", "error 12", "list q", "error 6", "list a/q", "error 6", "list a/x/q", "error 6")
	deskTells(t, "in order", "write b 1", "ok", "write b_ 1", "ok", "write b0 1", "ok", "write ab 1", "ok", "mkdir z", "ok", "list .", "a,ab,b,b0,b_,z")
	deskTells(t, "in what is mounted", "write a/z w", "ok", "list a", "x,y,z", "mount a", "inst 2", "list a", "a", "list a/a", "x,y", "list /", "a", "umount a", "ok", "list a", "x,y,z")
}

func TestDeskWrite(t *testing.T) {
	long := strings.Repeat("w", 60)
	deskTells(t, "files", "write a/x new", "ok", "read a/x", "new", "write z n", "ok", "read z", "n", "write z m", "ok", "read z", "m", "list /", "a,z", "write a/y "+long, "ok", "read a/y", long)
	deskTells(t, "what may not be", "write a w", "error 11", "write q/r w", "error 6", "write a/x/q w", "error 12", "write / w", "error 13", "write . w", "error 13", "write a/x "+long+"w", "error 1", "read a/x", "in")
	deskTells(t, "at a mount", "mount a", "inst 2", "write a w", "error 13", "write a/a w", "error 11", "write a/x w", "ok", "read a/x", "w", "write a "+long+"w", "error 1", "umount a", "ok", "read a/x", "in")
}

func TestDeskMkdir(t *testing.T) {
	deskTells(t, "directories", "mkdir d", "ok", "mkdir d/e", "ok", "list d", "e", "mkdir d/e/f", "ok", "mkdir a/d", "ok", "list a", "d,x,y", "list a/d", "-")
	deskTells(t, "what may not be", "mkdir a", "error 7", "mkdir a/x", "error 7", "mkdir q/r", "error 6", "mkdir a/x/q", "error 12", "mkdir /", "error 13", "list /", "a")
	deskTells(t, "where one was", "rm a/x", "ok", "rm a/y", "ok", "rm a", "ok", "mkdir a", "ok", "list a", "-", "read a/x", "error 6", "read a/y", "error 6")
	deskTells(t, "at a mount", "mkdir d", "ok", "mount d", "inst 2", "mkdir d", "error 13", "mkdir d/a", "error 7", "mkdir d/d", "ok", "list d", "a,d", "list d/d", "-")
}

func TestDeskRm(t *testing.T) {
	deskTells(t, "files", "rm a/x", "ok", "read a/x", "error 6", "list a", "y", "rm a/x", "error 6", "rm a/y", "ok", "list a", "-", "rm a", "ok", "rm a", "error 6", "list /", "-")
	deskTells(t, "what may not be", "rm q", "error 6", "rm a/x/q", "error 6", "rm a", "error 10", "rm /", "error 13", "rm .", "error 13", "list a", "x,y")
	deskTells(t, "at a mount, and above one", "mkdir d", "ok", "mkdir d/e", "ok", "mount d/e", "inst 2", "rm d/e", "error 13", "rm d", "error 13", "rm d/e/a/x", "ok", "list d/e/a", "y", "read a/x", "in", "umount d/e", "ok", "rm d/e", "ok", "rm d", "ok")
}

func TestDeskTouch(t *testing.T) {
	deskTells(t, "what is there", "touch a", "ok", "touch a/x", "ok", "touch a/y", "ok", "read a/x", "in", "read a/y", "far", "list a", "x,y", "mkdir d", "ok", "touch d", "ok", "list d", "-")
	deskTells(t, "what may not be", "touch q", "error 6", "touch a/q", "error 6", "touch a/x/q", "error 6", "touch /", "error 13", "list /", "a")
	deskTells(t, "at a mount", "mount a", "inst 2", "touch a", "error 13", "touch a/a", "ok", "touch a/x", "error 6", "list a/a", "x,y")
}

func TestDeskFlat(t *testing.T) {
	deskTells(t, "once", "flat /", "ok", "flat /", "error 10", "flat a", "error 10", "read a/x", "in", "list a", "x,y")
	deskTells(t, "where nothing is", "flat q/r", "ok", "flat .", "error 10")
	deskTells(t, "each for itself", "mount a", "inst 2", "flat a/q", "ok", "flat a", "error 10", "flat /", "ok", "flat q", "error 10", "umount a", "ok", "mount a", "inst 3", "flat a", "ok", "flat a/a/x", "error 10")
	deskTells(t, "amid changes", "rm a/x", "ok", "flat /", "ok", "read a/x", "error 6", "read a/y", "far", "write a/x n", "ok", "rm a/y", "ok", "list a", "x", "rm a/x", "ok", "rm a", "ok", "mkdir a", "ok", "list a", "-")
}

func TestDeskMount(t *testing.T) {
	deskTells(t, "one in the other", "mount a", "inst 2", "mount a/a", "inst 3", "mount a/a/a", "inst 4", "list a/a/a", "a", "read a/a/a/a/x", "in", "read a/a/a/x", "error 6")
	deskTells(t, "what may not be", "mount /", "error 7", "mount .", "error 7", "mount q", "error 6", "mount a/q", "error 6", "mount a/x", "error 12", "mount a/x/q", "error 6", "mount a", "inst 2", "mount a", "error 7")
	deskTells(t, "too many", "mkdir b", "ok", "mkdir c", "ok", "mkdir d", "ok", "mkdir e", "ok", "mkdir f", "ok", "mount a", "inst 2", "mount b", "inst 3", "mount c", "inst 4", "mount d", "inst 5", "mount e", "inst 6", "mount f", "error 9", "mount q", "error 6", "mount e", "error 7", "umount b", "ok", "mount f", "inst 7", "list f", "a")
	deskTells(t, "its own nest", "write a/x w", "ok", "mount a", "inst 2", "read a/a/x", "in", "write a/a/x v", "ok", "read a/a/x", "v", "umount a", "ok", "read a/x", "w", "mount a", "inst 3", "read a/a/x", "in")
}

func TestDeskUmountAndDetach(t *testing.T) {
	for _, word := range []string{"umount", "detach"} {
		deskTells(t, word, "mount a", "inst 2", word+" a", "ok", "list a", "x,y", word+" a", "error 6", "mount a", "inst 3")
		deskTells(t, word+" what may not be", word+" /", "error 1", word+" .", "error 1", word+" a", "error 6", word+" q", "error 6", word+" a/x", "error 6", "mount a", "inst 2", word+" a/a", "error 6", word+" /", "error 1", "list a", "a")
		deskTells(t, word+" from within", "mount a", "inst 2", "cd a/a", "ok", "list .", "x,y", word+" ..", "ok", "list .", "error 6", "list ..", "x,y")
		deskTells(t, word+" beside a handle", "mkdir b", "ok", "mount b", "inst 2", "open a/x", "handle 3", word+" b", "ok", "get 3", "in")
	}
	deskTells(t, "one under it", "mount a", "inst 2", "mount a/a", "inst 3", "umount a", "error 13", "list a/a", "a", "detach a", "ok", "list a", "x,y", "umount a", "error 6", "detach a/a", "error 6")
	deskTells(t, "from below on", "mount a", "inst 2", "mount a/a", "inst 3", "umount a/a", "ok", "umount a", "ok", "list a", "x,y")
	deskTells(t, "a handle in it", "mount a", "inst 2", "open a/a/x", "handle 3", "umount a", "error 13", "close 3", "ok", "umount a", "ok", "get 3", "error 6")
	deskTells(t, "a handle in it goes on", "mount a", "inst 2", "open a/a/x", "handle 3", "detach a", "ok", "read a/a/x", "error 6", "get 3", "in", "put 3 w", "ok", "get 3", "w", "read a/x", "in", "close 3", "ok", "close 3", "error 6")
}

func TestDeskOpen(t *testing.T) {
	deskTells(t, "files", "open a/x", "handle 2", "open a/x", "handle 3", "open a/y", "handle 4", "get 2", "in", "get 3", "in", "get 4", "far")
	deskTells(t, "what may not be", "open /", "error 6", "open q", "error 6", "open a/q", "error 6", "open a/x/q", "error 6", "open a", "error 11", "mount a", "inst 2", "open a", "error 6", "open a/a", "error 11", "open a/x", "error 6", "open a/a/x", "handle 3")
	deskTells(t, "too many", "open a/x", "handle 2", "open a/x", "handle 3", "open a/x", "handle 4", "open a/x", "handle 5", "open a/x", "handle 6", "open a/y", "handle 7", "open a/x", "error 9", "open a", "error 11", "open q", "error 6", "close 4", "ok", "open a/x", "handle 8", "get 4", "error 6", "get 7", "far", "get 8", "in")
	deskTells(t, "numbers of both", "open a/x", "handle 2", "mount a", "inst 3", "open a/a/y", "handle 4", "get 3", "error 6", "close 3", "error 6", "get 2", "in", "get 4", "far")
}

func TestDeskGetPutClose(t *testing.T) {
	long := strings.Repeat("w", 60)
	deskTells(t, "as by its path", "open a/x", "handle 2", "put 2 w", "ok", "read a/x", "w", "write a/x v", "ok", "get 2", "v", "put 2 "+long, "ok", "get 2", long, "put 2 "+long+"w", "error 1", "read a/x", long)
	deskTells(t, "no handle", "get 0", "error 6", "get 1", "error 6", "get 2", "error 6", "put 1 w", "error 6", "put 0 "+long+"w", "error 1", "close 0", "error 6", "close 1", "error 6", "get 999999999", "error 6", "put 999999999 w", "error 6", "close 999999999", "error 6", "read a/x", "in")
	deskTells(t, "what was removed", "open a/x", "handle 2", "rm a/x", "ok", "get 2", "error 6", "put 2 w", "ok", "get 2", "w", "read a/x", "w", "rm a/x", "ok", "mkdir a/x", "ok", "get 2", "error 11", "put 2 w", "error 11", "rm a/x", "ok", "rm a/y", "ok", "rm a", "ok", "get 2", "error 6", "put 2 w", "error 6", "write a f", "ok", "get 2", "error 6", "put 2 w", "error 12", "close 2", "ok", "put 2 w", "error 6")
	deskTells(t, "wherever the desk is", "open a/x", "handle 2", "cd q/r", "ok", "get 2", "in", "put 2 w", "ok", "cd /a", "ok", "read x", "w", "close 2", "ok", "close 2", "error 6")
}

// pathWords are the words behind which a PATH stands, each with what may stand behind that.
var pathWords = []string{"cd %s", "read %s", "list %s", "write %s w", "mkdir %s", "rm %s", "touch %s", "flat %s", "mount %s", "umount %s", "detach %s", "open %s"}

// A PATH that PathAt refuses is told as an error of any line, ahead of all else, and nothing is done.
func TestDeskTellsWhatPathAtRefuses(t *testing.T) {
	for _, form := range pathWords {
		for path, code := range map[string]int64{
			"Q": 3, "a/Q": 3, "...": 3, "/Q": 3, "a-b": 3, "_": 3, "0": 3, "-": 3, "\x00": 3, "\xff": 3, "é": 3, "a\tb": 3, "a\r": 3, "Q/..": 3, "/a/b/c/d/e/f/Q": 3, longName + "x": 3, "a/b/c/d/e/Q/g": 3,
			"a/b/c/d/e/f": 9, "a/b/c/d/e/f/g": 9, "/a/b/c/d/e/f/g": 9, "/a/b/c/d/e/f/g/..": 9, "/a/b/c/d/e/f/g/Q": 9, "b/c/d/e/f/g/../..": 9,
		} {
			line := fmt.Sprintf(form, path)
			deskTells(t, line, "cd a", "ok", line, errorOf(code), "list .", "x,y", "read x", "in", "flat .", "ok", line, errorOf(code), "mount .", "inst 2")
		}
	}
	deskTells(t, "ahead of data that may not be", "write Q "+strings.Repeat("w", 61), "error 3", "write a/b/c/d/e/f/g "+strings.Repeat("w", 61), "error 9", "write / "+strings.Repeat("w", 61), "error 1")
}

// The time of each line that may be is one that may be written; what it is, no line tells.
func TestDeskTimeIsRightByEachLine(t *testing.T) {
	for number := range impl.MaxDesk - 2 {
		ahead := slices.Repeat([]string{"list /", "a"}, number)
		for line, data := range map[string]string{"touch a/x": "in", "touch a": "in", "write a/x w": "w", "write z w": "in", "mkdir d": "in"} {
			deskTells(t, line, slices.Concat(ahead, []string{line, "ok", "read a/x", data})...)
		}
		deskTells(t, "put", slices.Concat([]string{"open a/x", "handle 2"}, ahead, []string{"put 2 w", "ok"})...)
	}
}
