package tests

import (
	"fmt"
	"slices"
	"strings"
	"testing"

	"loop.example/g00449/impl"
)

// thrownPath is one that often leads somewhere, said in many ways.
func (d *dice) thrownPath() string {
	paths := []string{"a", "a", "a/x", "a/x", "a/y", "a/y", "d", "d/e", "d/e", "a/d", "a/d/x", "a/a", "a/a/x", "a/a/a", "d/a", "d/a/x", "d/a/y", "z", "q", "q/r"}
	path := paths[d.below(len(paths))]
	switch d.below(16) {
	case 0, 1, 2, 3, 4, 5, 6, 7:
		return "/" + path
	case 8:
		return "../" + path
	case 9:
		return []string{".", "/", "..", "../..", "//", "./.", "Q", "a/Q", "/a/b/c/d/e/f/g"}[d.below(9)]
	case 10, 11:
		return []string{"x", "y", "e", "d"}[d.below(4)]
	}
	return path
}

// thrownLine is a right line.
func (d *dice) thrownLine() string {
	path, word := d.thrownPath(), fmt.Sprint("w", d.below(100))
	switch d.below(30) {
	case 0, 1:
		return "cd " + path
	case 2, 3, 4, 5:
		return "read " + path
	case 6, 7, 8:
		return "list " + path
	case 9, 10, 11:
		return "write " + path + " " + word
	case 12, 13, 14:
		return "mkdir " + path
	case 15, 16, 17, 18:
		return "rm " + path
	case 19:
		return "touch " + path
	case 20:
		return "flat " + path
	case 21, 22:
		return "mount " + []string{"/a", "/d", path, path}[d.below(4)]
	case 23:
		// Mostly where something may be mounted.
		return []string{"umount ", "umount ", "detach "}[d.below(3)] + []string{"/a", "/a", "/d", "/a/a", "/", path}[d.below(6)]
	case 24, 25:
		return "open " + path
	case 26:
		return "open " + []string{"/a/a/x", "/a/a/y", "/d/a/x"}[d.below(3)]
	case 27, 28:
		return fmt.Sprint("get ", d.below(8))
	}
	return []string{fmt.Sprint("put ", 2+d.below(4), " ", word), fmt.Sprint("close ", 2+d.below(6))}[d.below(2)]
}

// thrownLines are as many right lines as are asked for.
func (d *dice) thrownLines(count int) []string {
	all := []string{}
	for range count {
		all = append(all, d.thrownLine())
	}
	return all
}

// toldLines are what a desk tells of lines, one by one.
func toldLines(t *testing.T, lines []string) []string {
	t.Helper()
	got := impl.DeskRun(linesTo(lines))
	if got.Code != impl.OK || got.Line != 0 || got.Text != "" && !strings.HasSuffix(got.Text, "\n") {
		t.Fatalf("%q tell %+v", lines, got)
	}
	return strings.Split(got.Text, "\n")[:strings.Count(got.Text, "\n")]
}

// Promise 27: each line of a desk tells a line, one by one; what stands behind a line changes nothing of what it tells.
func TestEachLineOfADeskTellsALine(t *testing.T) {
	t.Parallel()
	d := dice{state: 27}
	for range 150 {
		lines := d.thrownLines(d.below(impl.MaxDesk + 1))
		told := toldLines(t, lines)
		if len(told) != len(lines) {
			t.Fatalf("%d lines tell %d: %q", len(lines), len(told), lines)
		}
		for number, line := range told {
			if line == "" || strings.Contains(line, "  ") || strings.HasPrefix(line, " ") || strings.HasSuffix(line, " ") {
				t.Fatalf("line %d of %q tells %q", number, lines, line)
			}
		}
		for _, count := range []int{0, 1, d.below(len(lines) + 1), len(lines) / 2} {
			count = min(count, len(lines))
			if ahead := toldLines(t, lines[:count]); !slices.Equal(ahead, told[:count]) {
				t.Fatalf("%q tell %q, but %q ahead of others", lines[:count], ahead, told[:count])
			}
		}
	}
}

// Promise 27 once more: every line but a change leaves the desk as it was, so that it may be said twice, and told twice.
func TestLinesThatAskTellTheSameTwice(t *testing.T) {
	t.Parallel()
	d := dice{state: 127}
	for range 150 {
		lines := d.thrownLines(impl.MaxDesk / 2)
		told := toldLines(t, lines)
		twice, want := []string{}, []string{}
		for number, line := range lines {
			twice, want = append(twice, line), append(want, told[number])
			asks := slices.Contains([]string{"read", "list", "get"}, strings.Split(line, " ")[0])
			if asks || strings.HasPrefix(told[number], "error ") {
				twice, want = append(twice, line), append(want, told[number])
			}
		}
		if got := toldLines(t, twice); !slices.Equal(got, want) {
			t.Fatalf("%q tell %q, want %q", twice, got, want)
		}
	}
}

// Promise 28: what is done at a desk is seen as of one plain tree.
func TestDeskIsSeenAsPlainTrees(t *testing.T) {
	t.Parallel()
	d := dice{state: 28}
	times := map[string]int{}
	for range 1500 {
		lines := d.thrownLines(impl.MaxDesk)
		told, want := toldLines(t, lines), plainlyTold(lines)
		if !slices.Equal(told, want) {
			t.Fatalf("%q tell %q\nof plain trees %q", lines, told, want)
		}
		for number, line := range lines {
			words := strings.Split(line, " ")
			if code, is := strings.CutPrefix(told[number], "error "); is {
				times[words[0]+" "+code]++
			} else {
				times[words[0]]++
			}
		}
	}
	for _, word := range append(slices.Clone(deskWords), "cd 3", "cd 9", "read 6", "read 11", "list 6", "list 12", "write 6", "write 11", "write 12", "write 13", "mkdir 6", "mkdir 7", "mkdir 12", "mkdir 13", "rm 6", "rm 10", "rm 13", "touch 6", "touch 13", "flat 10", "mount 6", "mount 7", "mount 12", "umount 1", "umount 6", "umount 13", "detach 1", "detach 6", "open 6", "open 11", "get 6", "put 6", "close 6") {
		if times[word] < 5 {
			t.Errorf("%q came %d times", word, times[word])
		}
	}
}

// flatLines are lines with others strewn among them that make nests flatter, and which these are.
func (d *dice) flatLines(lines []string) ([]string, []bool) {
	all, isFlat := []string{}, []bool{}
	for _, line := range append(slices.Clone(lines), "list /") {
		for range d.below(3) {
			all, isFlat = append(all, "flat "+[]string{"/", "/a", "/a/a", "/d", "/d/e", ".", "/q"}[d.below(7)]), append(isFlat, true)
		}
		all, isFlat = append(all, line), append(isFlat, false)
	}
	return all, isFlat
}

// Promise 28: wherever nests are made flatter among the lines, all others tell the same.
func TestDeskTellsTheSameWhereverItIsMadeFlatter(t *testing.T) {
	t.Parallel()
	d := dice{state: 228}
	flattened := 0
	for range 600 {
		lines := slices.DeleteFunc(d.thrownLines(14), func(line string) bool { return strings.HasPrefix(line, "flat ") })
		want := toldLines(t, append(slices.Clone(lines), "list /"))
		all, isFlat := d.flatLines(lines)
		if len(all) > impl.MaxDesk {
			continue
		}
		others := []string{}
		for number, line := range toldLines(t, all) {
			switch {
			case !isFlat[number]:
				others = append(others, line)
			case line == "ok":
				flattened++
			case line != "error 10":
				t.Fatalf("%q of %q tells %q", all[number], all, line)
			}
		}
		if !slices.Equal(others, want) {
			t.Fatalf("%q tell %q\nwithout the flat ones %q", all, others, want)
		}
	}
	if flattened < 300 {
		t.Errorf("only %d were made flatter", flattened)
	}
}

// Promise 28, each line for itself: behind every one of these changes, and between any two, the nest is made flatter.
func TestDeskIsMadeFlatterAtEachPlace(t *testing.T) {
	for _, lines := range [][]string{
		{"rm a/x", "read a/x", "list a", "write a/x n", "read a/x", "rm a/x", "rm a/y", "rm a", "list /", "mkdir a", "list a", "write a/y m", "list a"},
		{"mkdir a/d", "write a/d/x n", "rm a/d/x", "list a/d", "rm a/d", "mkdir a/d", "list a/d", "list a"},
		{"write a/y n", "rm a/y", "mkdir a/y", "list a/y", "rm a/y", "list a", "read a/x"},
		{"touch a", "list a", "touch a/y", "read a/y", "rm a/y", "touch a/y", "list a", "touch a", "list a"},
		{"open a/y", "put 2 n", "read a/y", "rm a/y", "get 2", "put 2 m", "get 2", "list a"},
		{"cd a", "rm x", "rm y", "rm .", "list .", "mkdir .", "list .", "write x n", "list ."},
	} {
		want := toldLines(t, lines)
		if plain := plainlyTold(lines); !slices.Equal(want, plain) {
			t.Fatalf("%q tell %q, of plain trees %q", lines, want, plain)
		}
		for place := range len(lines) + 1 {
			got := toldLines(t, slices.Insert(slices.Clone(lines), place, "flat /"))
			if got[place] != "ok" || !slices.Equal(slices.Delete(got, place, place+1), want) {
				t.Fatalf("%q with a flat at %d tell %q, want %q", lines, place, got, want)
			}
		}
	}
}

// An answer is new memory, and nothing is kept from one desk to the next.
func TestDeskAnswersAreNewMemory(t *testing.T) {
	words := impl.DeskWords()
	_ = append(words, make([]string, 8)...)
	clear(words)
	if got := impl.DeskWords(); !slices.Equal(got, deskWords) {
		t.Fatalf("DeskWords() = %q behind a change of an answer", got)
	}
	_ = append(impl.DeskWords()[:3], "changed")
	if got := impl.DeskWords(); !slices.Equal(got, deskWords) {
		t.Fatalf("DeskWords() = %q behind a change of an answer", got)
	}
	nest := impl.DeskNest()
	spoilNest(nest)
	deskTells(t, "behind a spoiled nest", "read a/x", "in", "mount a", "inst 2", "read a/a/y", "far")
	for _, one := range []string{"write a/x new\nrm a/y\nmount a\nopen a/a/x\ncd a\n", "read a/x\n", "write z zzzz\nread z\n", "mkdir dddd\nlist /\n", "read a/x\nx\n", ""} {
		text := strings.Clone(one)
		first := impl.DeskRun(text)
		if sharesMemory(first.Text, text) || text != one {
			t.Errorf("what is told of %q shares memory with it", one)
		}
		deskTells(t, "behind it", "read a/x", "in", "read a/y", "far", "list .", "a", "mount a", "inst 2")
		if again := impl.DeskRun(text); again != first {
			t.Errorf("%q tells %+v, then %+v", one, first, again)
		}
	}
}
