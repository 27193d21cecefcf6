package tests

import (
	"slices"
	"testing"

	"loop.example/g01303/impl"
)

// oneIn chooses one place out of as many as step tells, other ones for each number, and both ends.
func oneIn(place, end, step, number int) bool {
	return place == 0 || place == end || (place+number)%step == 0
}

// wantKink makes a first move, and takes it back.
func wantKink(t *testing.T, g impl.Gauss, p int, head, sign int64) {
	t.Helper()
	what := call("AddKink", spellGauss(g), p, head, sign)
	moved, code := impl.AddKink(g, int64(p), head, sign)
	wantGauss(t, what, moved, code, kinkedGauss(g, p, head, sign))
	if t.Failed() {
		t.FailNow()
	}
	back, code := impl.RemoveKink(moved, moved.Word[p])
	wantGauss(t, what+" and RemoveKink", back, code, g)
	wantSecond(t, what, moved, secondByDefinition(g))
}

func TestFirstMovesAreUndoneByTheirOpposites(t *testing.T) {
	for number, g := range gaussUpTo(5) {
		step := max(1, len(g.Heads)-2)
		for p := range len(g.Word) + 1 {
			if !oneIn(p, len(g.Word), step, number) {
				continue
			}
			for _, head := range []int64{0, 1} {
				wantKink(t, g, p, head, 1)
				wantKink(t, g, p, head, -1)
			}
		}
	}
}

// wantPair makes a second move, and takes it back with its chords in either order.
func wantPair(t *testing.T, g impl.Gauss, p, q int, kind, head int64) {
	t.Helper()
	what := call("AddPair", spellGauss(g), p, q, kind, head)
	moved, code := impl.AddPair(g, int64(p), int64(q), kind, head)
	wantGauss(t, what, moved, code, pairedGauss(g, p, q, kind, head))
	if t.Failed() {
		t.FailNow()
	}
	i, k := moved.Word[p], moved.Word[p+1]
	back, code := impl.RemovePair(moved, i, k)
	wantGauss(t, what+" and RemovePair", back, code, g)
	back, code = impl.RemovePair(moved, k, i)
	wantGauss(t, what+" and RemovePair the other way", back, code, g)
	wantSecond(t, what, moved, secondByDefinition(g))
}

func TestSecondMovesAreUndoneByTheirOpposites(t *testing.T) {
	for number, g := range gaussUpTo(4) {
		step := []int{1, 1, 1, 3, 5}[len(g.Heads)]
		for q := range len(g.Word) + 1 {
			for p := range q + 1 {
				if !oneIn(p, len(g.Word), step, number) || !oneIn(q, len(g.Word), step, number) && p != q {
					continue
				}
				for _, head := range []int64{0, 1} {
					wantPair(t, g, p, q, 0, head)
					wantPair(t, g, p, q, 1, head)
				}
			}
		}
	}
}

// TestFirstMovesUndoTheirOpposites takes chords away where an opposite of a move does, which is ErrState
// elsewhere, and adds them again.
func TestFirstMovesUndoTheirOpposites(t *testing.T) {
	for _, g := range someGauss() {
		for i := range int64(len(g.Heads)) {
			what := call("RemoveKink", spellGauss(g), i)
			moved, code := impl.RemoveKink(g, i)
			if !isKinkByDefinition(g, i) {
				wantCode(t, what, gaussOutcome(moved, code), impl.ErrState)
				continue
			}
			wantGauss(t, what, moved, code, gaussWithout(g, i))
			wantSecond(t, what, moved, secondByDefinition(g))
			back, code := impl.AddKink(moved, int64(placesByDefinition(g, i)[0]), g.Heads[i], g.Signs[i])
			wantGauss(t, what+" and AddKink", back, code, g)
		}
	}
}

func TestSecondMovesUndoTheirOpposites(t *testing.T) {
	removed := 0
	for _, g := range someGauss() {
		for i := range int64(len(g.Heads)) {
			for k := range int64(len(g.Heads)) {
				if i == k {
					continue
				}
				what := call("RemovePair", spellGauss(g), i, k)
				moved, code := impl.RemovePair(g, i, k)
				if !arePairByDefinition(g, i, k) {
					wantCode(t, what, gaussOutcome(moved, code), impl.ErrState)
					continue
				}
				removed++
				wantGauss(t, what, moved, code, gaussWithout(g, i, k))
				wantSecond(t, what, moved, secondByDefinition(g))
				// A second move adds the chord with the Sign 1 first.
				a, b := placesByDefinition(g, min(i, k)), placesByDefinition(g, max(i, k))
				if g.Signs[min(i, k)] == -1 {
					continue
				}
				kind := int64(0)
				if b[1] < a[1] {
					kind = 1
				}
				back, code := impl.AddPair(moved, int64(a[0]), int64(min(a[1], b[1])-2), kind, g.Heads[i])
				wantGauss(t, what+" and AddPair", back, code, g)
			}
		}
	}
	if removed < 300 {
		t.Errorf("just %d pairs of chords are taken away", removed)
	}
}

// TestManyMovesAreUndone makes moves up to MaxChords chords, and takes them back in the reverse order.
func TestManyMovesAreUndone(t *testing.T) {
	for number, g := range gaussUpTo(3) {
		steps := []impl.Gauss{g}
		var backward []func(h impl.Gauss) (impl.Gauss, int64)
		for at := g; len(at.Heads) < impl.MaxChords; {
			seed := mixedNumber(10*number + len(steps))
			q := int64(seed>>8) % int64(len(at.Word)+1)
			p := int64(seed>>40) % (q + 1)
			head, kind, sign := int64(seed&1), int64(seed>>1&1), 1-int64(seed&4)/2
			next, code := impl.AddPair(at, p, q, kind, head)
			if seed&8 == 0 || len(at.Heads) == impl.MaxChords-1 {
				next, code = impl.AddKink(at, p, head, sign)
			}
			if code != impl.ErrNone {
				t.Fatalf("a move of %s: code %d", spellGauss(at), code)
			}
			i, k := next.Word[p], next.Word[p+1]
			backward = append(backward, func(h impl.Gauss) (impl.Gauss, int64) {
				if i == k {
					return impl.RemoveKink(h, i)
				}
				return impl.RemovePair(h, k, i)
			})
			wantSecond(t, "many moves of "+spellGauss(g), next, secondByDefinition(g))
			steps, at = append(steps, next), next
		}
		last := steps[len(steps)-1]
		for step := len(backward) - 1; step >= 0; step-- {
			back, code := backward[step](last)
			wantGauss(t, "many moves of "+spellGauss(g), back, code, steps[step])
			last = back
		}
	}
}

func TestSecondNumbersByDefinition(t *testing.T) {
	different := map[int64]bool{}
	for _, g := range someGauss() {
		number, code := impl.SecondNumber(g)
		wantValue(t, call("SecondNumber", spellGauss(g)), number, code, secondByDefinition(g))
		different[number] = true
	}
	// The promise says something, as there are many second numbers.
	if len(different) < 7 {
		t.Errorf("there are just %d second numbers", len(different))
	}
}

func TestRotatedGaussWordsHaveRotatedWordsAndTheSameWrithe(t *testing.T) {
	for _, g := range someGauss() {
		writhe, _ := impl.WritheOf(g)
		for k := range len(g.Word) + 1 {
			what := call("RotateGauss", spellGauss(g), k)
			turned, code := impl.RotateGauss(g, int64(k))
			wantGauss(t, what, turned, code, rotatedGauss(g, k))
			word, code := impl.RotateWord(g.Word, int64(k))
			wantWord(t, what, turned.Word, code, word)
			same, code := impl.WritheOf(turned)
			wantValue(t, what+": WritheOf", same, code, writhe)
			back, code := impl.RotateGauss(turned, int64(len(g.Word)-k))
			wantGauss(t, what+" and back", back, code, g)
		}
	}
}

func TestRotationsByZeroAndByAllPlacesChangeNothing(t *testing.T) {
	for _, g := range someGauss() {
		none, code := impl.RotateGauss(g, 0)
		wantGauss(t, call("RotateGauss", spellGauss(g), 0), none, code, g)
		full, code := impl.RotateGauss(g, int64(len(g.Word)))
		wantGauss(t, call("RotateGauss", spellGauss(g), len(g.Word)), full, code, g)
		one := g
		for range g.Word {
			one, code = impl.RotateGauss(one, 1)
		}
		wantGauss(t, "RotateGauss by 1 as often as there are places of "+spellGauss(g), one, code, g)
	}
}

func TestWrithesByDefinition(t *testing.T) {
	for _, g := range someGauss() {
		want := int64(0)
		for _, sign := range g.Signs {
			want += sign
		}
		writhe, code := impl.WritheOf(g)
		wantValue(t, call("WritheOf", spellGauss(g)), writhe, code, want)
	}
}

func TestReversedTwice(t *testing.T) {
	for _, g := range someGauss() {
		once, code := impl.ReverseGauss(g)
		wantGauss(t, call("ReverseGauss", spellGauss(g)), once, code, reversedGauss(g))
		twice, code := impl.ReverseGauss(once)
		wantGauss(t, call("ReverseGauss twice", spellGauss(g)), twice, code, g)
		word, _ := impl.ReflectWord(g.Word)
		wantWord(t, call("ReverseGauss", spellGauss(g)), once.Word, code, word)
	}
}

func TestMirroredTwice(t *testing.T) {
	for _, g := range someGauss() {
		once, code := impl.MirrorGauss(g)
		wantGauss(t, call("MirrorGauss", spellGauss(g)), once, code, mirroredGauss(g))
		twice, code := impl.MirrorGauss(once)
		wantGauss(t, call("MirrorGauss twice", spellGauss(g)), twice, code, g)
	}
}

func TestSwitchedTwice(t *testing.T) {
	for _, g := range someGauss() {
		all := g
		for i := range int64(len(g.Heads)) {
			once, code := impl.SwitchChord(g, i)
			wantGauss(t, call("SwitchChord", spellGauss(g), i), once, code, switchedGauss(g, i))
			twice, code := impl.SwitchChord(once, i)
			wantGauss(t, call("SwitchChord twice", spellGauss(g), i), twice, code, g)
			all, code = impl.SwitchChord(all, i)
			wantGauss(t, call("SwitchChord up to", spellGauss(g), i), all, code, switchedGauss(g, chordsUpTo(i)...))
		}
		mirrored, code := impl.MirrorGauss(g)
		wantGauss(t, call("MirrorGauss", spellGauss(g)), mirrored, code, all)
	}
}

// chordsUpTo lists the chords 0..i.
func chordsUpTo(i int64) []int64 {
	var chords []int64
	for chord := range i + 1 {
		chords = append(chords, chord)
	}
	return chords
}

func TestGaussWordsComeBackFromTexts(t *testing.T) {
	different := map[string]bool{}
	for _, g := range someGauss() {
		text, code := impl.GaussText(g)
		wantValue(t, call("GaussText", spellGauss(g)), text, code, spellGauss(g))
		back, code := impl.ParseGauss(text)
		wantGauss(t, call("ParseGauss", text), back, code, g)
		different[text] = true
	}
	if len(different) < len(smallGauss()) {
		t.Errorf("there are just %d texts", len(different))
	}
}

// TestPatternsByDefinition takes each pattern of at most 3 chords, and longer ones that are there.
func TestPatternsByDefinition(t *testing.T) {
	var patterns []impl.Gauss
	for _, word := range wordsUpTo(3) {
		for heads := range uint64(1) << (len(word) / 2) {
			// Bit 2 i of the number is the Head of the chord i.
			patterns = append(patterns, decorated(word, heads&1|heads&2<<1|heads&4<<2))
		}
	}
	if len(patterns) != 1+2+3*4+15*8 {
		t.Fatalf("there are %d patterns", len(patterns))
	}
	for number, g := range everyOther(someGauss(), 5) {
		own := copyGauss(g)
		other := rotatedGauss(g, min(1, len(g.Word)))
		short := gaussWithout(g, int64(number)%7)
		for _, pattern := range append(everyOther(patterns[number%4:], 4), own, other, short) {
			count, code := impl.CountPattern(g, pattern)
			want := countByDefinition(g, pattern.Word, pattern.Heads)
			wantValue(t, call("CountPattern", spellGauss(g), spellGauss(pattern)), count, code, want)
		}
	}
}

func TestSignsOfPatternsAreNotLookedAt(t *testing.T) {
	for number, g := range everyOther(someGauss(), 9) {
		pattern := gaussWithout(g, int64(number)%7, int64(number/7)%7)
		want := countByDefinition(g, pattern.Word, pattern.Heads)
		for i := range pattern.Signs {
			pattern.Signs[i] = -pattern.Signs[i]
			count, code := impl.CountPattern(g, pattern)
			wantValue(t, call("CountPattern", spellGauss(g), spellGauss(pattern)), count, code, want)
		}
	}
}

// TestPatternsWithoutChordsAndWithTooMany takes patterns of no chords, of all chords and of more.
func TestPatternsWithoutChordsAndWithTooMany(t *testing.T) {
	for _, g := range someGauss() {
		for _, none := range []impl.Gauss{{}, gauss([]int64{}, []int64{}, []int64{}), gauss(make([]int64, 0, 3), nil, make([]int64, 0, 3))} {
			count, code := impl.CountPattern(g, none)
			wantValue(t, call("CountPattern without chords", spellGauss(g)), count, code, 1)
		}
		product := int64(1)
		for _, sign := range g.Signs {
			product *= sign
		}
		count, code := impl.CountPattern(g, g)
		wantValue(t, call("CountPattern of itself", spellGauss(g)), count, code, product)
		if len(g.Heads) < impl.MaxChords {
			longer := kinkedGauss(g, len(g.Word), 1, 1)
			count, code = impl.CountPattern(g, longer)
			wantValue(t, call("CountPattern", spellGauss(g), spellGauss(longer)), count, code, 0)
		}
	}
}

// TestPatternsThatAreWrittenDown has chords that are chosen in many ways.
func TestPatternsThatAreWrittenDown(t *testing.T) {
	for _, c := range []struct {
		gauss, pattern string
		want           int64
	}{
		{"a+ob+oc+od+oe+of+oabcdef", "a+oa", 6},
		{"a+ob+oc+od+oe+of+oabcdef", "a+ob+oab", 15},
		{"a+ob+oc+od+oe+of+oabcdef", "a+ob+oc+oabc", 20},
		{"a+ob+oc+od+oe+of+oabcdef", "a+ob+oc+od+oe+of+oabcdef", 1},
		{"a+ob+oc+od+oe+of+oabcdef", "a+ob+oba", 0},
		{"a-ob-oc-od-oe-of-oabcdef", "a+oa", -6},
		{"a-ob-oc-od-oe-of-oabcdef", "a+ob+oab", 15},
		{"a-ob-oc-od-oe-of-oabcdef", "a+ob+oc+oabc", -20},
		{"a+oab-obc+oc", "a+oab+ob", -1},
		{"a+oab-obc+oc", "a+oab+obc+oc", -1},
		{"a+oab-ubc+oc", "a+oab+ub", -1},
		{"a+oab-ubc+oc", "a+uab+ob", -1},
		{"a+oab-ubc+oc", "a+oab+ob", 1},
		{"a+oab-ubc+oc", "a+uab+ub", 0},
		{"a+ub-obc+oca", "a+ub+oba", 0},
		{"a+ub+obc+oca", "a+ub+oba", 2},
		{"a+ub+oab", "a+ua", 1},
		{"a+ub+oab", "a+ob+uab", 0},
		{"a+ub+oab", "", 1},
		{"", "", 1},
		{"", "a+ua", 0},
	} {
		count, code := impl.CountPattern(readGauss(c.gauss), readGauss(c.pattern))
		wantValue(t, call("CountPattern", c.gauss, c.pattern), count, code, c.want)
	}
}

// TestSecondNumbersThatAreWrittenDown has the Heads of both chords in each way.
func TestSecondNumbersThatAreWrittenDown(t *testing.T) {
	for text, want := range map[string]int64{
		"": 0, "a+ua": 0, "a-oa": 0,
		"a+ub+oab": 1, "a-ub+oab": -1, "a+ub-oab": -1, "a-ub-oab": 1,
		"a+ob+uab": 0, "a+ob+oab": 0, "a+ub+uab": 0, "a+ub+oba": 0, "a+uab+ob": 0,
		"a+ub+oc+uabc": 1, "a+ob+uc+oabc": 1, "a-ob-uc-oabc": 1, "a+ub+oc+oabc": 2, "a+ub+uc+oabc": 2,
		"a+ub+uc+ud+oe+of+oabcdef": 9, "a-ub-uc-ud+oe+of+oabcdef": -9,
	} {
		wantSecond(t, text, readGauss(text), want)
	}
}

// TestTheGaussWordWithoutChords takes it with nil and with empty lists that have room behind them.
func TestTheGaussWordWithoutChords(t *testing.T) {
	none := impl.Gauss{}
	room := gauss(make([]int64, 0, 9), make([]int64, 0, 9), make([]int64, 0, 9))
	for _, g := range []impl.Gauss{none, room, gauss([]int64{}, []int64{}, []int64{}), gauss(nil, []int64{}, nil)} {
		if !impl.IsGauss(g) {
			t.Errorf("IsGauss(%v) = false", g)
		}
		writhe, code := impl.WritheOf(g)
		wantValue(t, "WritheOf without chords", writhe, code, 0)
		moved, code := impl.ReverseGauss(g)
		wantGauss(t, "ReverseGauss without chords", moved, code, none)
		moved, code = impl.MirrorGauss(g)
		wantGauss(t, "MirrorGauss without chords", moved, code, none)
		moved, code = impl.RotateGauss(g, 0)
		wantGauss(t, "RotateGauss without chords", moved, code, none)
		moved, code = impl.AddKink(g, 0, 1, -1)
		wantGauss(t, "AddKink without chords", moved, code, readGauss("a-oa"))
		moved, code = impl.AddPair(g, 0, 0, 0, 1)
		wantGauss(t, "AddPair of the kind 0 without chords", moved, code, readGauss("a+ob-oab"))
		moved, code = impl.AddPair(g, 0, 0, 1, 0)
		wantGauss(t, "AddPair of the kind 1 without chords", moved, code, readGauss("a+ub-uba"))
		wantCode(t, "SwitchChord without chords", gaussOutcome(impl.SwitchChord(g, 0)), impl.ErrRange)
		wantCode(t, "RotateGauss without chords by 1", gaussOutcome(impl.RotateGauss(g, 1)), impl.ErrRange)
		wantCode(t, "RemoveKink without chords", gaussOutcome(impl.RemoveKink(g, 0)), impl.ErrRange)
		wantCode(t, "RemovePair without chords", gaussOutcome(impl.RemovePair(g, 0, 1)), impl.ErrRange)
		wantSecond(t, "without chords", g, 0)
		text, code := impl.GaussText(g)
		wantValue(t, "GaussText without chords", text, code, "")
		back, code := impl.ParseGauss("")
		wantGauss(t, "ParseGauss of nothing", back, code, g)
	}
}

// TestMovesThatAreWrittenDown has first and second moves at both ends and between.
func TestMovesThatAreWrittenDown(t *testing.T) {
	g := readGauss("a+ub-oab")
	for _, c := range []struct {
		p, head, sign int64
		want          string
	}{
		{0, 0, 1, "a+uab+uc-obc"}, {0, 1, -1, "a-oab+uc-obc"}, {1, 1, 1, "a+ub+obc-oac"}, {2, 0, -1, "a+ub-oc-ucab"},
		{3, 0, 1, "a+ub-oac+ucb"}, {4, 0, 1, "a+ub-oabc+uc"}, {4, 1, -1, "a+ub-oabc-oc"},
	} {
		moved, code := impl.AddKink(g, c.p, c.head, c.sign)
		wantGauss(t, call("AddKink", spellGauss(g), c.p, c.head, c.sign), moved, code, readGauss(c.want))
	}
	for _, c := range []struct {
		p, q, kind, head int64
		want             string
	}{
		{0, 0, 0, 1, "a+ob-oabc+ud-ocd"}, {0, 0, 1, 0, "a+ub-ubac+ud-ocd"}, {4, 4, 0, 0, "a+ub-oabc+ud-ucd"}, {4, 4, 1, 1, "a+ub-oabc+od-odc"},
		{0, 4, 0, 0, "a+ub-uc+ud-ocdab"}, {0, 4, 1, 1, "a+ob-oc+ud-ocdba"}, {1, 2, 0, 1, "a+ub+oc-od-obcad"}, {1, 2, 1, 1, "a+ub+oc-od-ocbad"},
		{2, 2, 1, 0, "a+ub-oc+ud-udcab"}, {2, 3, 0, 0, "a+ub-oc+ud-uacdb"},
	} {
		moved, code := impl.AddPair(g, c.p, c.q, c.kind, c.head)
		wantGauss(t, call("AddPair", spellGauss(g), c.p, c.q, c.kind, c.head), moved, code, readGauss(c.want))
	}
}

// TestOppositesThatAreWrittenDown has chords next to each other and those that seem so.
func TestOppositesThatAreWrittenDown(t *testing.T) {
	for _, c := range []struct {
		text string
		i    int64
		want string
	}{
		{"a+uab-ob", 0, "a-oa"}, {"a+uab-ob", 1, "a+ua"}, {"a+ub-oba", 1, "a+ua"}, {"a-oa", 0, ""},
		{"a+ub-oc+ucab", 2, "a+ub-oab"}, {"a+uab-oc+ubc", 0, "a-ob+uab"},
	} {
		moved, code := impl.RemoveKink(readGauss(c.text), c.i)
		wantGauss(t, call("RemoveKink", c.text, c.i), moved, code, readGauss(c.want))
	}
	for _, c := range []struct {
		text string
		i, k int64
		want string
	}{
		{"a+ub-uab", 0, 1, ""}, {"a-ub+uab", 0, 1, ""}, {"a+ob-oba", 0, 1, ""}, {"a-ob+oba", 1, 0, ""},
		{"a+ub-uc+ubac", 0, 1, "a+ua"}, {"a+ub-uc+ud-odcab", 0, 1, "a+ub-oba"}, {"a+ub-oc+od-odbca", 1, 2, "a+ub-oba"},
		{"a+ub-oc+od+obcad", 2, 1, "a+ub+oab"}, {"a-oab-uc+ucb", 1, 2, "a-oa"}, {"a-ub+uc+oabc", 0, 1, "a+oa"},
	} {
		moved, code := impl.RemovePair(readGauss(c.text), c.i, c.k)
		wantGauss(t, call("RemovePair", c.text, c.i, c.k), moved, code, readGauss(c.want))
	}
}

// TestTheLastPlaceAndThePlaceZero are not next to each other.
func TestTheLastPlaceAndThePlaceZero(t *testing.T) {
	for _, g := range someGauss() {
		last := len(g.Word) - 1
		if last < 2 || g.Word[0] != g.Word[last] {
			continue
		}
		wantCode(t, call("RemoveKink", spellGauss(g), 0), gaussOutcome(impl.RemoveKink(g, 0)), impl.ErrState)
		// Rotated by 1, both are at the end.
		turned, code := impl.RotateGauss(g, 1)
		if code != impl.ErrNone {
			t.Fatalf("RotateGauss(%s, 1): code %d", spellGauss(g), code)
		}
		moved, code := impl.RemoveKink(turned, turned.Word[last])
		wantGauss(t, call("RemoveKink", spellGauss(turned)), moved, code, gaussWithout(turned, turned.Word[last]))
	}
	for _, text := range []string{"a+uab-ob", "a+uab-uc-ucb", "a+ub-ubc+uca", "a+ub+uc-ucab", "a+ub-uc+uabc"} {
		g := readGauss(text)
		for i := range int64(len(g.Heads)) {
			for k := range i {
				moved, code := impl.RemovePair(g, i, k)
				if !arePairByDefinition(g, i, k) {
					wantCode(t, call("RemovePair", text, i, k), gaussOutcome(moved, code), impl.ErrState)
				}
			}
		}
	}
}

// TestGaussWordsOfMaxChords makes them by moves, and takes each of the functions that has one of them.
func TestGaussWordsOfMaxChords(t *testing.T) {
	for number, g := range someGaussOfSize(impl.MaxChords-2, 3, 1) {
		p, q := number%(len(g.Word)/2), len(g.Word)-number%3
		longest, code := impl.AddPair(g, int64(p), int64(q), int64(number%2), int64(number/2%2))
		wantGauss(t, call("AddPair", spellGauss(g), p, q), longest, code, pairedGauss(g, p, q, int64(number%2), int64(number/2%2)))
		if len(longest.Heads) != impl.MaxChords {
			t.Fatalf("%s has %d chords", spellGauss(longest), len(longest.Heads))
		}
		turned, code := impl.RotateGauss(longest, 7)
		wantGauss(t, call("RotateGauss", spellGauss(longest), 7), turned, code, rotatedGauss(longest, 7))
		reversed, code := impl.ReverseGauss(longest)
		wantGauss(t, call("ReverseGauss", spellGauss(longest)), reversed, code, reversedGauss(longest))
		text, code := impl.GaussText(longest)
		wantValue(t, "length of GaussText of "+spellGauss(longest), len(text), code, 24)
		back, code := impl.ParseGauss(text)
		wantGauss(t, call("ParseGauss", text), back, code, longest)
		wantSecond(t, "MaxChords chords", longest, secondByDefinition(g))
	}
	for number, g := range someGaussOfSize(impl.MaxChords-1, 9, 1) {
		wantKink(t, g, number%11, int64(number%2), 1-2*int64(number/2%2))
	}
}

// TestGaussTextsThatAreWrittenDown has each letter, each Sign and each Head.
func TestGaussTextsThatAreWrittenDown(t *testing.T) {
	for text, want := range map[string]impl.Gauss{
		"":         {},
		"a+ua":     gauss([]int64{0, 0}, []int64{0}, []int64{1}),
		"a+oa":     gauss([]int64{0, 0}, []int64{1}, []int64{1}),
		"a-ua":     gauss([]int64{0, 0}, []int64{0}, []int64{-1}),
		"a-oa":     gauss([]int64{0, 0}, []int64{1}, []int64{-1}),
		"a+ub-oab": gauss([]int64{0, 1, 0, 1}, []int64{0, 1}, []int64{1, -1}),
		"a-oab+ub": gauss([]int64{0, 0, 1, 1}, []int64{1, 0}, []int64{-1, 1}),
		"a-ub-oba": gauss([]int64{0, 1, 1, 0}, []int64{0, 1}, []int64{-1, -1}),
		"a+ob-oc-ud+ue+of-ufedcba": gauss([]int64{0, 1, 2, 3, 4, 5, 5, 4, 3, 2, 1, 0},
			[]int64{1, 1, 0, 0, 1, 0}, []int64{1, -1, -1, 1, 1, -1}),
		"a-oab-obc-ocd-ode-oef-of": gauss([]int64{0, 0, 1, 1, 2, 2, 3, 3, 4, 4, 5, 5},
			slices.Repeat([]int64{1}, 6), slices.Repeat([]int64{-1}, 6)),
	} {
		got, code := impl.GaussText(want)
		wantValue(t, call("GaussText", want), got, code, text)
		back, code := impl.ParseGauss(text)
		wantGauss(t, call("ParseGauss", text), back, code, want)
	}
}

func TestGaussExamples(t *testing.T) {
	g, code := impl.ParseGauss("a+ub+oab")
	wantGauss(t, "ParseGauss(a+ub+oab)", g, code, gauss([]int64{0, 1, 0, 1}, []int64{0, 1}, []int64{1, 1}))
	wantSecond(t, "the example", g, 1)
	for _, c := range []struct {
		what, from, want string
		get              func(g impl.Gauss) (impl.Gauss, int64)
	}{
		{"ReverseGauss", "a+uab-ob", "a-uab+ob", impl.ReverseGauss},
		{"ReverseGauss", "a+ub-oc+oacb", "a-ub+uc+obac", impl.ReverseGauss},
		{"MirrorGauss", "a+ub-oab", "a-ob+uab", impl.MirrorGauss},
		{"RotateGauss by 1", "a+ub-oab", "a-ob+oab", func(g impl.Gauss) (impl.Gauss, int64) { return impl.RotateGauss(g, 1) }},
		{"RotateGauss by 2", "a+ub-oab", "a+ob-uab", func(g impl.Gauss) (impl.Gauss, int64) { return impl.RotateGauss(g, 2) }},
		{"RotateGauss by 2", "a+uab-ob", "a-oab+ub", func(g impl.Gauss) (impl.Gauss, int64) { return impl.RotateGauss(g, 2) }},
		{"RotateGauss by 1", "a+uab-ob", "a+ob-oba", func(g impl.Gauss) (impl.Gauss, int64) { return impl.RotateGauss(g, 1) }},
		{"SwitchChord 0", "a+ub-oab", "a-ob-oab", func(g impl.Gauss) (impl.Gauss, int64) { return impl.SwitchChord(g, 0) }},
		{"SwitchChord 1", "a+ub-oab", "a+ub+uab", func(g impl.Gauss) (impl.Gauss, int64) { return impl.SwitchChord(g, 1) }},
	} {
		got, code := c.get(readGauss(c.from))
		wantGauss(t, c.what+" of "+c.from, got, code, readGauss(c.want))
	}
}
