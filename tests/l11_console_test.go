package tests

import (
	"slices"
	"strings"
	"testing"

	"loop.example/g01303/impl"
)

// TestLinesLeadFromDesksToDesks runs each command, with all words behind it, on desks of many kinds: the
// definitions of the other chapters' tests tell the desk after it and the output.
func TestLinesLeadFromDesksToDesks(t *testing.T) {
	for _, d := range someDesks() {
		if !impl.IsDesk(d) {
			t.Fatalf("%s is no desk", showDesk(d))
		}
		for name, row := range tableOfLines {
			for _, line := range linesBehind(name, row.behind) {
				want, output := afterByDefinition(d, line)
				after, got := wantLine(t, d, line, want, output)
				if !impl.IsDesk(after) {
					t.Errorf("%q on %s leads to %s, which is no desk", line, showDesk(d), showDesk(after))
				}
				if got == "error" && !equalDesks(after, d) {
					t.Errorf("%q on %s is wrong, and leads to %s", line, showDesk(d), showDesk(after))
				}
			}
		}
		if t.Failed() {
			return
		}
	}
}

// walkLines are lines of which texts are made: more of them are right than wrong on most desks.
var walkLines = strings.Split("word abcabc,word aabb,word abab,word ,join aa,join abab,rotate 1,rotate 3,reflect,least,delete 0,delete 1,add 0 2,"+
	"add 1 3,add 2 2,local 0,local 1,pivot 0 1,pivot 1 2,prime 7,prime 5,prime 4,sum 1*+2*aa+1*abab,sum 0,plus 1,plus 4,plus 1,plus 2,four 0 0,"+
	"four 1 2,circle,derive,reduce,free,antipode,primitive,exp 3,log 2,resolve,resolve,web ring,web comb,web wheel,web net,legs,turn 0,turn 1,"+
	"exchange 0,exchange 1,fork 0,fork 2,show,look,see,circles,genus,rank,degrees,crossings,conway,gl,interlace,colours 3,cliques,dimension 4,"+
	"pure,loops,degree,reset,,fly, show,add 1", ",")

// walk returns a text of so many lines, told by a seed.
func walk(lines, seed int) string {
	var text strings.Builder
	state := uint32(seed)*2654435761 + 12345
	for range lines {
		state = state*1664525 + 1013904223
		text.WriteString(walkLines[int(state>>8)%len(walkLines)] + "\n")
	}
	return text.String()
}

// TestConsoleJoinsTheOutputs holds the console against the definitions, and against single lines.
func TestConsoleJoinsTheOutputs(t *testing.T) {
	wrong := 0
	for seed := range 400 {
		text := walk(maxLines-seed%7, seed)
		want, outputs := newByDefinition(), ""
		d, joined := impl.NewDesk(), ""
		for line := range strings.Lines(text) {
			line = strings.TrimSuffix(line, "\n")
			if line == "" {
				continue
			}
			var output, single string
			want, output = afterByDefinition(want, line)
			d, single = impl.RunLine(d, line)
			outputs, joined = outputs+output+"\n", joined+single+"\n"
			wrong += strings.Count(output, "error")
		}
		wantOutputs(t, text, outputs)
		wantDeskAfter(t, text, want)
		if joined != outputs || !equalDesks(d, want) {
			t.Fatalf("single lines of %q have the outputs %q, and lead to %s", text, joined, showDesk(d))
		}
	}
	if wrong == 0 || wrong > 400*maxLines/2 {
		t.Errorf("%d lines of the texts are wrong", wrong)
	}
}

// wantOutputs checks the outputs of a text.
func wantOutputs(t *testing.T, text, outputs string) {
	t.Helper()
	if got := impl.Console(text); got != outputs {
		t.Errorf("Console(%.200q) = %.500q; want %.500q", text, got, outputs)
	}
}

// wantDeskAfter checks the desk after a text that is not refused.
func wantDeskAfter(t *testing.T, text string, want impl.Desk) {
	t.Helper()
	if d, isAllowed := impl.DeskAfter(text); !isAllowed || !equalDesks(d, want) {
		t.Errorf("DeskAfter(%.200q) = %s, %v; want %s, true", text, showDesk(d), isAllowed, showDesk(want))
	}
}

// lineExample is a line with the lines ahead of it on the new desk, its output, and the part of the desk that
// it changes: W, S or F (which is then put out), D for the whole desk, or none.
type lineExample struct{ ahead, line, output, part string }

// lineExamples have been reckoned by hand, or stand in the document.
var lineExamples = []lineExample{
	{"", "word abcacb", "abcacb", "W"},
	{"", "word ", "none", "W"},
	{"", "word abcdefabcdef", "abcdefabcdef", "W"},
	{"", "join aa", "ababcc", "W"},
	{"word aa", "join ", "aa", "W"},
	{"word ", "join abba", "abba", "W"},
	{"word ", "join ", "none", "W"},
	{"word abcacb", "rotate 2", "abacbc", "W"},
	{"word abcacb", "rotate 6", "abcacb", "W"},
	{"word abcacb", "reflect", "abcbac", "W"},
	{"word abba", "least", "aabb", "W"},
	{"word abcacb", "delete 0", "abba", "W"},
	{"word aa", "delete 0", "none", "W"},
	{"word aa", "add 1 2", "abab", "W"},
	{"word aa", "add 0 2", "abba", "W"},
	{"word aa", "add 2 2", "aabb", "W"},
	{"word ", "add 0 0", "aa", "W"},
	{"word abcacb", "local 0", "abcabc", "W"},
	{"word abcacb", "pivot 0 1", "abcbac", "W"},
	{"sum 1*aa", "prime 7", "0", "S"},
	{"", "sum 1*aa+3*abab", "1*aa+3*abab", "S"},
	{"", "sum 4*", "4*", "S"},
	{"sum 1*aa", "sum 0", "0", "S"},
	{"sum 1*aa", "plus 3", "1*aa+3*abab", "S"},
	{"sum 1*aa+4*abab", "plus 1", "1*aa", "S"},
	{"sum 1*aa,word ", "plus 2", "2*+1*aa", "S"},
	{"sum 1*aa", "plus 0", "1*aa", "S"},
	{"word aa", "four 0 0", "1*aabb+4*abba", "S"},
	{"prime 3,word aa", "four 0 1", "0", "S"},
	{"sum 1*aabb+1*abba", "circle", "2*aabb", "S"},
	{"sum 1*abab", "derive", "2*aa", "S"},
	{"sum 3*aa", "derive", "3*", "S"},
	{"sum 3*", "derive", "0", "S"},
	{"sum 1*aa+1*aabcbc+1*abcabc", "reduce", "1*aa+2*abacbc", "S"},
	{"sum 1*aa+2*aabb+1*abab", "free", "1*abab", "S"},
	{"sum 1*abab", "antipode", "2*aabb+4*abab", "S"},
	{"sum 1*abab", "primitive", "4*aabb+1*abab", "S"},
	{"sum 1*aa", "exp 2", "1*+1*aa+3*aabb", "S"},
	{"sum 1*aa", "exp 0", "1*", "S"},
	{"sum 1*+1*aa", "log 2", "1*aa+2*aabb", "S"},
	{"", "resolve", "1*abab+4*abba", "S"},
	{"prime 2", "resolve", "1*abab+1*abba", "S"},
	{"word ,legs", "resolve", "1*", "S"},
	{"", "web ring", "0 1 ; 0 2 3 ; 1 3 2", "F"},
	{"", "web chord", "0 0", "F"},
	{"", "legs", "0 1 0 1", "F"},
	{"word ", "legs", "", "F"},
	{"word abcddcba", "legs", "0 1 2 3 3 2 1 0", "F"},
	{"", "turn 0", "0 1 2 ; 0 2 1", "F"},
	{"web bridge", "turn 1", "0 1 2 3 ; 0 1 4 ; 4 3 2", "F"},
	{"", "exchange 1", "0 2 1 ; 0 1 2", "F"},
	{"", "fork 0", "3 2 ; 0 1 2 ; 3 0 1", "F"},
	{"web chord", "fork 0", "1 ; 1 0 0", "F"},
	{"", "show", "abab", ""},
	{"word ", "show", "none", ""},
	{"", "look", "0", ""},
	{"sum 2*+1*abba", "look", "2*+1*abba", ""},
	{"", "see", "0 1 2 ; 0 1 2", ""},
	{"word ,legs", "see", "", ""},
	{"web chord", "see", "0 0", ""},
	{"", "circles", "1", ""},
	{"word aabb", "circles", "3", ""},
	{"", "genus", "1", ""},
	{"word aabb", "genus", "0", ""},
	{"", "rank", "2", ""},
	{"word aabb", "rank", "0", ""},
	{"word abcacb", "degrees", "2 1 1", ""},
	{"word abcbac", "degrees", "1 1 2", ""},
	{"word ", "degrees", "none", ""},
	{"word aa", "degrees", "0", ""},
	{"word abcacb", "crossings", "2", ""},
	{"word aabb", "crossings", "0", ""},
	{"", "conway", "1", ""},
	{"word aa", "conway", "0", ""},
	{"", "gl", "0 1", ""},
	{"word aabb", "gl", "0 0 0 1", ""},
	{"", "interlace", "0 2 0", ""},
	{"word ", "interlace", "1", ""},
	{"word aa", "interlace", "0 1", ""},
	{"", "colours 3", "6", ""},
	{"", "colours 1", "0", ""},
	{"word ", "colours 0", "1", ""},
	{"word aabbcc", "colours 8", "512", ""},
	{"", "cliques", "1 2 1", ""},
	{"word aabb", "cliques", "1 2 0", ""},
	{"word ", "cliques", "1", ""},
	{"", "dimension 2", "2", ""},
	{"", "dimension 3", "3", ""},
	{"prime 2", "dimension 0", "1", ""},
	{"", "pure", "yes", ""},
	{"sum 1*aa", "pure", "yes", ""},
	{"sum 1*aabb", "pure", "no", ""},
	{"sum 1*", "pure", "no", ""},
	{"", "loops", "0", ""},
	{"web ring", "loops", "1", ""},
	{"word ,legs", "loops", "0", ""},
	{"", "degree", "2", ""},
	{"web comb", "degree", "4", ""},
	{"word ,legs", "degree", "0", ""},
	{"", "reset", "ok", "D"},
	{"word aa,prime 3,plus 1,web ring", "reset", "ok", "D"},
}

// TestLineExamples checks that nothing but the part changes, and that there is an example of each command.
func TestLineExamples(t *testing.T) {
	missing := map[string]bool{}
	for name := range tableOfLines {
		missing[name] = true
	}
	for _, example := range lineExamples {
		var ahead []string
		if example.ahead != "" {
			ahead = strings.Split(example.ahead, ",")
		}
		d := deskOf(t, ahead...)
		after, output := impl.RunLine(d, example.line)
		if output != example.output {
			t.Errorf("%q on %s has the output %q; want %q", example.line, showDesk(d), output, example.output)
		}
		want := d
		switch example.part {
		case "W":
			want.Word = after.Word
			wantLine(t, after, "show", after, example.output)
		case "S":
			want.Sum = after.Sum
			wantLine(t, after, "look", after, example.output)
		case "F":
			want.Web = after.Web
			wantLine(t, after, "see", after, example.output)
		case "D":
			want = newByDefinition()
		}
		if !equalDesks(after, want) {
			t.Errorf("%q on %s leads to %s", example.line, showDesk(d), showDesk(after))
		}
		name, _, _ := strings.Cut(example.line, " ")
		delete(missing, name)
	}
	if len(missing) > 0 || len(tableOfLines) != 45 {
		t.Errorf("%d commands, without an example: %v", len(tableOfLines), missing)
	}
}

// TestPrimesOfDesks checks that the prime of the sum counts in the lines behind it.
func TestPrimesOfDesks(t *testing.T) {
	for _, p := range primes {
		d := deskOf(t, "prime "+outputByDefinition(p))
		if !equalSums(d.Sum, impl.Sum{Prime: p}) {
			t.Errorf("the sum for the prime %d is %s", p, spelling(d.Sum))
		}
		after := d
		after.Sum = one(p, "abab", p-1)
		wantLine(t, d, "plus "+outputByDefinition(p-1), after, outputByDefinition(p-1)+"*abab")
		wantLine(t, d, "plus "+outputByDefinition(p), d, "error")
		wantLine(t, d, "sum "+outputByDefinition(p)+"*abab", d, "error")
		for n := range int64(maxOrder + 1) {
			dimension, code := impl.DimensionOf(p, n)
			wantValue(t, call("DimensionOf", p, n), dimension, code, int64(len(circleLists[n].diagrams)-len(relationLists[relationKey{p, int(n), false}])))
			wantLine(t, d, "dimension "+outputByDefinition(n), d, outputByDefinition(dimension))
		}
	}
}

func TestNewDesk(t *testing.T) {
	if d := impl.NewDesk(); !equalDesks(d, newByDefinition()) || !impl.IsDesk(d) {
		t.Errorf("NewDesk() = %s", showDesk(d))
	}
	wantDeskAfter(t, "", newByDefinition())
	after := newByDefinition()
	after.Sum = sumByDefinition(5, plain{"abab": 1, "abba": 4})
	wantLine(t, impl.NewDesk(), "resolve", after, "1*abab+4*abba")
}

// TestDesksOfGoodAndBadParts takes each part that is none beside good ones.
func TestDesksOfGoodAndBadParts(t *testing.T) {
	for _, d := range someDesks() {
		if !impl.IsDesk(d) {
			t.Errorf("%s is no desk", showDesk(d))
		}
	}
	for _, d := range notDesks() {
		// The parts grow greater: those behind the first one that is taken may take long to be shown.
		if impl.IsDesk(d) {
			t.Fatalf("%s is a desk", showDesk(d))
		}
	}
}

// TestOutputsOfNumbersAreNotNegative goes through all words of up to 5 chords: no line puts out a number less
// than 0, so none has a sign.
func TestOutputsOfNumbersAreNotNegative(t *testing.T) {
	d := impl.NewDesk()
	for _, w := range wordsUpTo(5) {
		d.Word = w
		for _, line := range []string{"interlace", "gl", "cliques", "degrees", "colours 2"} {
			want, output := afterByDefinition(d, line)
			if strings.Contains(output, "-") {
				t.Errorf("%q on %s puts out %q", line, showDesk(d), output)
			}
			wantLine(t, d, line, want, output)
		}
	}
}

// TestEmptyLinesAreLeftOut lays empty lines between others, at the beginning and at the end, and leaves out
// the last newline.
func TestEmptyLinesAreLeftOut(t *testing.T) {
	after := newByDefinition()
	after.Word = spelt("aa")
	for _, text := range []string{"word aa\nshow\n", "word aa\nshow", "\nword aa\nshow", "word aa\n\nshow\n", "\n\n\nword aa\n\n\n\nshow\n\n\n", "word aa\nshow\n\n"} {
		wantOutputs(t, text, "aa\naa\n")
		wantDeskAfter(t, text, after)
	}
	for _, text := range []string{"", "\n", "\n\n", strings.Repeat("\n", maxLines)} {
		wantOutputs(t, text, "")
		wantDeskAfter(t, text, newByDefinition())
	}
	// An output that is empty is a line of its own.
	wantOutputs(t, "word \nlegs\nsee\nshow", "none\n\n\nnone\n")
	// A blank, or any other byte, is not nothing.
	wantOutputs(t, " \nshow\n\r\n\t\n", "error\nabab\nerror\nerror\n")
	wantOutputs(t, "show\r\nshow\r\n", "error\nerror\n")
}

// TestLimitsOfTexts takes texts of as many lines and bytes as there may be, and of one more.
func TestLimitsOfTexts(t *testing.T) {
	if impl.MaxConsole != maxConsole || impl.MaxLines != maxLines {
		t.Errorf("MaxConsole is %d, MaxLines is %d", impl.MaxConsole, impl.MaxLines)
	}
	rotated := newByDefinition()
	rotated.Word = spelt("abba")
	lines := slices.Repeat([]string{"word aabb", "rotate 1"}, maxLines/2)
	wantOutputs(t, strings.Join(lines, "\n"), strings.Repeat("aabb\nabba\n", maxLines/2))
	wantOutputs(t, strings.Join(lines, "\n")+"\n", strings.Repeat("aabb\nabba\n", maxLines/2))
	wantDeskAfter(t, strings.Join(lines, "\n"), rotated)
	wantDeskAfter(t, strings.Join(lines, "\n")+"\n", rotated)
	wantOutputs(t, "rotate 1"+strings.Repeat("\n", maxLines), "abab\n")
	wantOutputs(t, strings.Repeat("\n", maxLines-1)+"show", "abab\n")

	wide := "word aa\n" + strings.Repeat("x", maxConsole-9)
	aa := newByDefinition()
	aa.Word = spelt("aa")
	wantOutputs(t, wide+"x", "aa\nerror\n")
	wantOutputs(t, wide+"\n", "aa\nerror\n")
	wantDeskAfter(t, wide+"x", aa)
	wantDeskAfter(t, wide+"\n", aa)
	// Each of these letters has two bytes.
	wantOutputs(t, strings.Repeat("\u00e9", maxConsole/2), "error\n")
	wantOutputs(t, "show\n"+strings.Repeat(" ", maxConsole-5), "abab\nerror\n")

	for _, text := range []string{
		strings.Join(lines, "\n") + "\n\n", strings.Join(lines, "\n") + "\nshow", strings.Join(lines, "\n") + "\nshow\n", "\n" + strings.Join(lines, "\n"),
		strings.Repeat("\n", maxLines+1), strings.Repeat("\n", maxLines) + "show", "show" + strings.Repeat("\n", maxLines+1),
		wide + "xx", wide + "x\n", wide + "\nx", wide + "\n\n", strings.Repeat("\u00e9", maxConsole/2) + "x", strings.Repeat("\u00e9", maxConsole/2+1),
		strings.Repeat("\n", maxConsole), strings.Repeat("\n", maxConsole+1), strings.Repeat("show\n", 1<<20), strings.Repeat("s", 1<<24), strings.Repeat(" ", 1<<24),
	} {
		wantOutputs(t, text, "")
		if d, isAllowed := impl.DeskAfter(text); isAllowed || !equalDesks(d, impl.Desk{}) {
			t.Errorf("DeskAfter(%.20q ..) of %d bytes = %s, %v", text, len(text), showDesk(d), isAllowed)
		}
	}
}
