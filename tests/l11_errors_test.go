package tests

import (
	"runtime"
	"slices"
	"strings"
	"sync"
	"testing"
	"time"

	"loop.example/g01303/impl"
)

// notDesks are values that are no desks: each part that is none, beside good ones.
func notDesks() []impl.Desk {
	list := []impl.Desk{{}, {Word: spelt("abab"), Web: web([]int64{0, 0})}}
	for _, bad := range notWords() {
		d := newByDefinition()
		d.Word = bad
		list = append(list, d)
	}
	for _, bad := range notSums() {
		d := newByDefinition()
		d.Sum = bad
		list = append(list, d)
	}
	for _, bad := range notWebs() {
		d := newByDefinition()
		d.Web = bad
		list = append(list, d)
	}
	return list
}

// TestLinesOnNoDesks takes lines that use the bad part or not, one that makes the desk new, and wrong ones.
func TestLinesOnNoDesks(t *testing.T) {
	for _, bad := range notDesks() {
		for _, line := range []string{"show", "look", "see", "word aa", "prime 5", "web fork", "resolve", "reset", "fly", "", "rotate", "rotate x"} {
			after, output := impl.RunLine(bad, line)
			if output != "" || !equalDesks(after, impl.Desk{}) {
				t.Errorf("%q on %s leads to %s with %q", line, showDesk(bad), showDesk(after), output)
			}
		}
		// The lists grow longer: a function that goes on with one of them may take hours over the next.
		if t.Failed() {
			return
		}
	}
}

// busyDesk is a desk on which the commands lead to other parts.
func busyDesk() impl.Desk {
	return impl.Desk{
		Word: spelt("abcacb"),
		Sum:  sumByDefinition(5, plain{"aa": 2, "abab": 1, "abba": 3}),
		Web:  copyWeb(namedByDefinition["bridge"]),
	}
}

// wantWrong checks that a line has the output error, and changes nothing.
func wantWrong(t *testing.T, d impl.Desk, line string) {
	t.Helper()
	wantLine(t, d, line, d, "error")
}

func TestLinesOfNoCommand(t *testing.T) {
	for _, d := range []impl.Desk{impl.NewDesk(), busyDesk()} {
		for _, line := range []string{
			"", " ", "  ", "fly", "fly 1", "Show", "SHOW", "shows", "sho", "show,", "show;see", "show\n", "\nshow", "show\nsee", "show\t", "\tshow", "rotate\t1",
			"rotate\n1", "show\r", "show\x00", "\x00", "sh\u00f6w", "\xff", "error", "none", "ok", "yes", "0", "1", "W", "word\u00a0aa", "rotate\u00a01", "rotate1",
			"colors 3", "exponential 2", "T", "N", "TEXT", " show", "  show", " rotate 1", " word aa", " reset", strings.Repeat("show", 1<<20), strings.Repeat(" ", 1<<20),
		} {
			wantWrong(t, d, line)
		}
	}
}

// TestLinesOfOtherWords leaves out words behind each command, and adds some: blanks at the end, or two of
// them, make words that are empty, and one too many.
func TestLinesOfOtherWords(t *testing.T) {
	for _, d := range []impl.Desk{impl.NewDesk(), busyDesk()} {
		for name, row := range tableOfLines {
			for _, word := range []string{"0", "1", "aa", "0", "", "fork"} {
				for count := range 6 {
					if count != len(row.behind) {
						wantWrong(t, d, name+strings.Repeat(" "+word, count))
					}
				}
			}
			line := name + map[string]string{"": "", "T": " aa", "N": " 1", "NN": " 0 1"}[row.behind]
			for _, wrong := range []string{line + " ", line + "  ", " " + line, "  " + line, line + " " + line, line + " \t", line + " 1 1"} {
				wantWrong(t, d, wrong)
			}
			if row.behind != "" {
				wantWrong(t, d, strings.Replace(line, " ", "  ", 1))
				wantWrong(t, d, strings.TrimRight(line, "a01 "))
			}
		}
		wantWrong(t, d, "add 0  1")
		wantWrong(t, d, "add  0 1")
		wantWrong(t, d, "word  ")
		wantWrong(t, d, "word  aa")
	}
}

// wrongNumbers are words that are no numbers, though some of them may be read as numbers that would do.
var wrongNumbers = []string{
	"", "00", "01", "001", "000000001", "0000000001", "-0", "-1", "+0", "+1", "1.", "1.0", ".1", "1e0", "0x1", "0b1", "0o1", "1_0", "1,", "x", "a", "I", "\u0661",
	"1\t", "\t1", "1\n", "\n1", "1\x00", "1000000000", "1000000001", "4294967297", "9999999999", "18446744073709551616", "18446744073709551617", "-18446744073709551615",
	"9223372036854775807", "9223372036854775808", "-9223372036854775808", strings.Repeat("0", 1<<16), strings.Repeat("9", 1<<16), "\uff11", "\u00b9", "0\u0301",
}

func TestNumbersOfLines(t *testing.T) {
	for _, d := range []impl.Desk{impl.NewDesk(), busyDesk()} {
		for name, row := range tableOfLines {
			for _, wrong := range wrongNumbers {
				switch row.behind {
				case "N":
					wantWrong(t, d, name+" "+wrong)
				case "NN":
					wantWrong(t, d, name+" "+wrong+" 1")
					wantWrong(t, d, name+" 0 "+wrong)
					wantWrong(t, d, name+" "+wrong+" "+wrong)
				}
			}
		}
	}
	// Numbers that are right, next to those.
	for _, line := range []string{"rotate 0", "rotate 4", "add 0 4", "prime 11", "plus 0", "four 1 0", "exp 0", "turn 0", "exchange 1", "fork 1", "colours 8", "dimension 0"} {
		want, output := afterByDefinition(impl.NewDesk(), line)
		wantLine(t, impl.NewDesk(), line, want, output)
		if output == "error" {
			t.Errorf("%q is wrong", line)
		}
	}
}

// refusedLines are lines with the lines ahead of them on the new desk for each error that a function returns,
// or for a Prime that is none.
var refusedLines = []struct{ ahead, line string }{
	{"", "word a"}, {"", "word ba"}, {"", "word aabbccddeeffgg"}, {"", "word AA"}, {"", "word 0101"},
	{"", "join b"}, {"", "join aabbccddee"}, {"word aa", "join aabbccddeeff"}, {"word aabbccddeeff", "join aa"},
	{"", "rotate 5"}, {"word ", "rotate 1"}, {"", "rotate 999999999"},
	{"", "delete 2"}, {"word ", "delete 0"}, {"", "delete 999999999"},
	{"", "add 2 1"}, {"", "add 0 5"}, {"", "add 5 5"}, {"word aabbccddeeff", "add 0 0"}, {"word aabbccddeeff", "add 1 0"}, {"word ", "add 0 1"},
	{"", "local 2"}, {"word ", "local 0"}, {"", "pivot 0 0"}, {"", "pivot 0 2"}, {"", "pivot 2 0"}, {"word aabb", "pivot 0 1"}, {"word ", "pivot 0 0"},
	{"sum 1*aa", "prime 0"}, {"sum 1*aa", "prime 1"}, {"sum 1*aa", "prime 4"}, {"sum 1*aa", "prime 9"}, {"sum 1*aa", "prime 17"}, {"sum 1*aa", "prime 999999999"},
	{"sum 1*aa", "sum "}, {"sum 1*aa", "sum 5*aa"}, {"sum 1*aa", "sum 0*aa"}, {"sum 1*aa", "sum aa"}, {"sum 1*aa", "sum 1*abab+1*aa"}, {"prime 3", "sum 3*aa"},
	{"", "plus 5"}, {"prime 2", "plus 2"}, {"prime 13", "plus 13"},
	{"word ", "four 0 0"}, {"word aabbccddeeff", "four 0 0"}, {"", "four 2 0"}, {"", "four 0 5"},
	{"sum 1*aabbccddee", "reduce"}, {"sum 1*aabbccddee", "free"}, {"sum 1*+1*abcdeabcde", "antipode"}, {"sum 1*+1*abcdeabcde", "primitive"},
	{"prime 2,plus 1", "primitive"}, {"prime 3,sum 1*aa+1*abcabc", "primitive"}, {"prime 5,sum 1*aabbccddee", "primitive"},
	{"sum 1*aa", "exp 5"}, {"sum 1*+1*aa", "exp 2"}, {"sum 1*", "exp 0"}, {"prime 3,sum 1*aa", "exp 3"}, {"prime 2", "exp 2"}, {"sum 1*abcdeabcde", "exp 2"},
	{"sum 1*+1*aa", "log 5"}, {"sum 1*aa", "log 2"}, {"sum 2*+1*aa", "log 2"}, {"", "log 0"}, {"prime 3,sum 1*", "log 3"}, {"sum 1*+1*abcdeabcde", "log 2"},
	{"", "web "}, {"", "web net"}, {"", "web Fork"}, {"", "web fork;"}, {"word abcdeabcde", "legs"}, {"word aabbccddeeff", "legs"},
	{"", "turn 1"}, {"web chord", "turn 0"}, {"", "turn 999999999"}, {"", "exchange 2"}, {"word ,legs", "exchange 0"}, {"", "exchange 999999999"},
	{"", "fork 2"}, {"web chord,fork 0", "fork 0"}, {"word ,legs", "fork 0"}, {"", "fork 999999999"},
	{"", "colours 9"}, {"word ", "colours 999999999"}, {"", "dimension 5"}, {"", "dimension 999999999"},
}

func TestRefusedLines(t *testing.T) {
	for _, refused := range refusedLines {
		var ahead []string
		if refused.ahead != "" {
			ahead = strings.Split(refused.ahead, ",")
		}
		d := deskOf(t, ahead...)
		wantWrong(t, d, refused.line)
		if askedByDefinition(d, refused.line) == nil {
			t.Errorf("%q is wrong as it stands, whatever the desk", refused.line)
		}
	}
}

// TestSumsOfTooManyTerms takes sums of as many Terms as there may be.
func TestSumsOfTooManyTerms(t *testing.T) {
	d := newByDefinition()
	d.Sum = firstOf(5, wordsOfSize(6), 200)
	wantWrong(t, d, "plus 1")
	wantLine(t, d, "plus 0", d, textByDefinition(d.Sum))
	d.Word = d.Sum.Terms[7].Word
	after := d
	after.Sum = sumByDefinition(5, plainOf(d.Sum))
	after.Sum.Terms[7].Value = 3
	wantLine(t, d, "plus 2", after, textByDefinition(after.Sum))
	// Of every 50th word there are more than 200 without one of its chords.
	d.Sum = firstOf(5, everyOther(wordsOfSize(6), 50), 200)
	if few := fewTerms(sumByDefinition(5, derivativeByDefinition(plainOf(d.Sum)))); few != nil {
		t.Error("the derivative has too few Terms")
	}
	wantWrong(t, d, "derive")
}

// deskInRoom returns a copy of a desk with spare capacity behind all of its lists that is marked, and a
// function that reports whether all of it is still what it was.
func deskInRoom(d impl.Desk) (impl.Desk, func() bool) {
	w, isWordUntouched := inRoom(d.Word)
	x, isSumUntouched := sumInRoom(d.Sum)
	f, isWebUntouched := webInRoom(d.Web)
	isUntouched := func() bool { return isWordUntouched() && isSumUntouched() && isWebUntouched() }
	return impl.Desk{Word: w, Sum: x, Web: f}, isUntouched
}

// listsOfDesk returns all lists of a desk, and takes them out of it.
func listsOfDesk(d impl.Desk) [][]int64 {
	lists := append([][]int64{d.Word}, listsOf(d.Sum)...)
	clear(d.Sum.Terms[:cap(d.Sum.Terms)])
	return append(lists, listsOfWeb(d.Web)...)
}

// TestDesksShareNothing takes lines of each command, wrong ones among them: the desk after a line has none of
// the memory of the one ahead of it.
func TestDesksShareNothing(t *testing.T) {
	for _, d := range []impl.Desk{newByDefinition(), busyDesk()} {
		for name, row := range tableOfLines {
			for _, behind := range map[string][]string{"": {"", " "}, "T": {" ", " aa", " 1*aa+1*abab", " ring"}, "N": {" 0", " 1", " 99"}, "NN": {" 0 0", " 0 1", " 1 0"}}[row.behind] {
				room, isUntouched := deskInRoom(d)
				wantNothingShared(t, name+behind, func() [][]int64 {
					after, _ := impl.RunLine(room, name+behind)
					return listsOfDesk(after)
				}, isUntouched)
			}
		}
	}
	never := func() bool { return true }
	wantNothingShared(t, "NewDesk", func() [][]int64 { return listsOfDesk(impl.NewDesk()) }, never)
	wantNothingShared(t, "reset", func() [][]int64 {
		d, _ := impl.RunLine(impl.NewDesk(), "reset")
		return listsOfDesk(d)
	}, never)
	for _, text := range []string{"", "web comb", "resolve\nlegs\nplus 1", "legs\nword aa\nplus 2\nfly"} {
		wantNothingShared(t, call("DeskAfter", text), func() [][]int64 {
			d, _ := impl.DeskAfter(text)
			return listsOfDesk(d)
		}, never)
	}
}

// TestIsDeskChangesNothing takes desks, and values that are none.
func TestIsDeskChangesNothing(t *testing.T) {
	for _, d := range append(everyOther(someDesks(), 3), notDesks()[:40]...) {
		room, isUntouched := deskInRoom(d)
		impl.IsDesk(room)
		impl.RunLine(room, "show")
		if !isUntouched() {
			t.Errorf("IsDesk or RunLine changes %s, or what is behind it", showDesk(d))
		}
	}
}

// TestConsolesAtTheSameTime runs the same texts at the same time, on desks of their own, and counts the
// goroutines behind them. The last one may still be about to return, so it is given some time.
func TestConsolesAtTheSameTime(t *testing.T) {
	before := runtime.NumGoroutine()
	d := busyDesk()
	texts := []string{walk(maxLines, 1), walk(maxLines, 2), "resolve\nantipode\nreduce\nprimitive"}
	var outputs []string
	for _, text := range texts {
		outputs = append(outputs, impl.Console(text))
	}
	var callers sync.WaitGroup
	for range 20 {
		callers.Go(func() {
			for k, text := range texts {
				wantOutputs(t, text, outputs[k])
			}
			for _, line := range []string{"show", "rotate 1", "plus 1", "antipode", "turn 1", "fly", "reset"} {
				want, output := afterByDefinition(d, line)
				wantLine(t, d, line, want, output)
			}
		})
	}
	callers.Wait()
	if !slices.ContainsFunc(outputs, func(output string) bool { return strings.Contains(output, "+") }) {
		t.Error("no output is a sum of some Terms")
	}
	for range 1000 {
		if runtime.NumGoroutine() <= before {
			return
		}
		time.Sleep(time.Millisecond)
	}
	t.Errorf("%d goroutines, and %d before", runtime.NumGoroutine(), before)
}
