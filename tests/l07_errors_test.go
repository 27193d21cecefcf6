package tests

import (
	"slices"
	"strings"
	"sync"
	"testing"

	"loop.example/g01303/impl"
)

// longList returns a list of a million numbers.
func longList(number int64) []int64 { return slices.Repeat([]int64{number}, 1<<20) }

// notGauss are values that are no Gauss words, of all the kinds that the definition excludes.
func notGauss() []impl.Gauss {
	var list []impl.Gauss
	// Words that are none, with as many Heads and Signs as half of their numbers.
	for _, bad := range notWords() {
		n := len(bad) / 2
		list = append(list, gauss(bad, make([]int64, n), slices.Repeat([]int64{1}, n)), gauss(bad, nil, nil))
	}
	for _, good := range []impl.Gauss{{}, readGauss("a+ua"), readGauss("a-ob+oab"), readGauss("a+uab-obc-uc"), readGauss("a-ob-oc-od-oe-of-oabcdef")} {
		n := len(good.Heads)
		// Heads and Signs of another number.
		list = append(list,
			gauss(good.Word, append(slices.Clone(good.Heads), 0), good.Signs), gauss(good.Word, append(slices.Clone(good.Heads), 1), good.Signs),
			gauss(good.Word, good.Heads, append(slices.Clone(good.Signs), 1)), gauss(good.Word, good.Heads, append(slices.Clone(good.Signs), -1)),
			gauss(good.Word, longList(0), good.Signs), gauss(good.Word, good.Heads, longList(1)), gauss(good.Word, longList(1), longList(1)),
			gauss(longList(0), good.Heads, good.Signs), gauss(append(slices.Clone(good.Word), 0), good.Heads, good.Signs))
		if n > 0 {
			list = append(list,
				gauss(good.Word, good.Heads[:n-1], good.Signs), gauss(good.Word, good.Heads, good.Signs[:n-1]),
				gauss(good.Word, good.Heads[:n-1], good.Signs[:n-1]), gauss(good.Word, nil, good.Signs), gauss(good.Word, good.Heads, nil),
				gauss(good.Word, nil, nil), gauss(nil, good.Heads, good.Signs), gauss(good.Word[1:], good.Heads, good.Signs),
				gauss(good.Word[2:], good.Heads, good.Signs))
		}
		// Heads and Signs with other numbers, at the beginning and at the end.
		for _, place := range slices.Compact([]int{0, max(0, n-1)}[:2*min(1, n)]) {
			for _, other := range append([]int64{2, -2, 3, 255, 256, 257}, oddNumbers...) {
				list = append(list, gauss(good.Word, withNumber(good.Heads, place, other), good.Signs))
				if other != -1 {
					list = append(list, gauss(good.Word, good.Heads, withNumber(good.Signs, place, other)))
				}
			}
			list = append(list, gauss(good.Word, good.Heads, withNumber(good.Signs, place, 0)))
		}
	}
	return list
}

// withNumber returns a copy of a list with another number at a place.
func withNumber(list []int64, place int, number int64) []int64 {
	other := slices.Clone(list)
	other[place] = number
	return other
}

// gaussCalls are the calls of Gauss words, told by what they return beside numbers in their ranges or
// beyond.
func gaussCalls(k int64) map[string]func(g impl.Gauss) outcome {
	other := readGauss("a+ub-oab")
	return map[string]func(g impl.Gauss) outcome{
		"WritheOf":             func(g impl.Gauss) outcome { return valueOutcome(impl.WritheOf(g)) },
		"ReverseGauss":         func(g impl.Gauss) outcome { return gaussOutcome(impl.ReverseGauss(g)) },
		"MirrorGauss":          func(g impl.Gauss) outcome { return gaussOutcome(impl.MirrorGauss(g)) },
		"SwitchChord":          func(g impl.Gauss) outcome { return gaussOutcome(impl.SwitchChord(g, k)) },
		"RotateGauss":          func(g impl.Gauss) outcome { return gaussOutcome(impl.RotateGauss(g, k)) },
		"AddKink":              func(g impl.Gauss) outcome { return gaussOutcome(impl.AddKink(g, k, k, 1)) },
		"RemoveKink":           func(g impl.Gauss) outcome { return gaussOutcome(impl.RemoveKink(g, k)) },
		"AddPair":              func(g impl.Gauss) outcome { return gaussOutcome(impl.AddPair(g, k, k, k, k)) },
		"RemovePair":           func(g impl.Gauss) outcome { return gaussOutcome(impl.RemovePair(g, k, 1-k)) },
		"CountPattern":         func(g impl.Gauss) outcome { return valueOutcome(impl.CountPattern(g, other)) },
		"CountPattern of none": func(g impl.Gauss) outcome { return valueOutcome(impl.CountPattern(g, impl.Gauss{})) },
		"CountPattern in":      func(g impl.Gauss) outcome { return valueOutcome(impl.CountPattern(other, g)) },
		"CountPattern in none": func(g impl.Gauss) outcome { return valueOutcome(impl.CountPattern(impl.Gauss{}, g)) },
		"CountPattern of both": func(g impl.Gauss) outcome { return valueOutcome(impl.CountPattern(g, g)) },
		"SecondNumber":         func(g impl.Gauss) outcome { return valueOutcome(impl.SecondNumber(g)) },
		"GaussText":            func(g impl.Gauss) outcome { return valueOutcome(impl.GaussText(g)) },
	}
}

// TestNoGaussWordsAreInvalid takes values that are no Gauss words, beside numbers that are in their
// ranges and beyond: ErrInvalid comes first.
func TestNoGaussWordsAreInvalid(t *testing.T) {
	for _, bad := range notGauss() {
		name := " with " + spellGauss(bad)
		if isGaussByDefinition(bad) || impl.IsGauss(bad) {
			t.Errorf("IsGauss%s = true", name)
		}
		for _, k := range append([]int64{0, 1, 2}, oddNumbers...) {
			for what, get := range gaussCalls(k) {
				wantCode(t, call(what, k)+name, get(bad), impl.ErrInvalid)
			}
		}
		if t.Failed() {
			return
		}
	}
}

// TestIsGaussTakesJustTheGaussWords takes all lists of small numbers as Words, Heads and Signs.
func TestIsGaussTakesJustTheGaussWords(t *testing.T) {
	var lists, words [][]int64
	for size := range 5 {
		words = append(words, listsOfResidues(2, size)...)
	}
	for size := range 4 {
		for _, list := range listsOfResidues(4, size) {
			for place := range list {
				list[place] -= 2
			}
			lists = append(lists, list)
		}
	}
	found := 0
	for _, word := range words {
		for _, heads := range lists {
			for _, signs := range lists {
				g := gauss(word, heads, signs)
				if impl.IsGauss(g) != isGaussByDefinition(g) {
					t.Fatalf("IsGauss(%s) = %v", spellGauss(g), impl.IsGauss(g))
				}
				if isGaussByDefinition(g) {
					found++
				}
			}
		}
	}
	if found != 1+4+3*16 {
		t.Errorf("there are %d Gauss words", found)
	}
	for _, g := range someGauss() {
		if !impl.IsGauss(g) {
			t.Errorf("IsGauss(%s) = false", spellGauss(g))
		}
	}
}

// manySizes has Gauss words of all sizes.
func manySizes() []impl.Gauss {
	return slices.Concat(everyOther(smallGauss(), 90), someGaussOfSize(4, 30, 1), someGaussOfSize(5, 300, 1), someGaussOfSize(6, 3000, 1))
}

func TestChordsAndPlacesOutOfRange(t *testing.T) {
	for _, g := range manySizes() {
		name, n := spellGauss(g), int64(len(g.Heads))
		for _, i := range append([]int64{n, n + 1, 2 * n, 2*n + 1}, oddNumbers...) {
			if i >= 0 && i < n {
				continue
			}
			wantCode(t, call("SwitchChord", name, i), gaussOutcome(impl.SwitchChord(g, i)), impl.ErrRange)
			wantCode(t, call("RemoveKink", name, i), gaussOutcome(impl.RemoveKink(g, i)), impl.ErrRange)
			for k := range n + 1 {
				wantCode(t, call("RemovePair", name, i, k), gaussOutcome(impl.RemovePair(g, i, k)), impl.ErrRange)
				wantCode(t, call("RemovePair", name, k, i), gaussOutcome(impl.RemovePair(g, k, i)), impl.ErrRange)
			}
			wantCode(t, call("RemovePair", name, i, i), gaussOutcome(impl.RemovePair(g, i, i)), impl.ErrRange)
		}
		for _, k := range append([]int64{2*n + 1, 2*n + 2}, oddNumbers...) {
			if k <= 2*n && k >= 0 {
				continue
			}
			wantCode(t, call("RotateGauss", name, k), gaussOutcome(impl.RotateGauss(g, k)), impl.ErrRange)
			wantCode(t, call("AddKink", name, k), gaussOutcome(impl.AddKink(g, k, 0, 1)), impl.ErrRange)
			wantCode(t, call("AddPair", name, k, k), gaussOutcome(impl.AddPair(g, k, k, 0, 0)), impl.ErrRange)
			wantCode(t, call("AddPair", name, 0, k), gaussOutcome(impl.AddPair(g, 0, k, 1, 0)), impl.ErrRange)
			wantCode(t, call("AddPair", name, k, 2*n), gaussOutcome(impl.AddPair(g, k, 2*n, 0, 1)), impl.ErrRange)
		}
	}
}

func TestEqualChordsAreOutOfRange(t *testing.T) {
	for _, g := range someGauss() {
		for i := range int64(len(g.Heads)) {
			wantCode(t, call("RemovePair", spellGauss(g), i, i), gaussOutcome(impl.RemovePair(g, i, i)), impl.ErrRange)
		}
	}
}

// TestHeadsSignsAndKindsOutOfRange takes Gauss words of MaxChords chords as well: ErrRange comes ahead
// of ErrLimit.
func TestHeadsSignsAndKindsOutOfRange(t *testing.T) {
	for _, g := range manySizes() {
		name, end := spellGauss(g), int64(len(g.Word))
		for _, k := range append([]int64{2, 3, -2, 256, 257}, oddNumbers...) {
			wantCode(t, call("AddKink", name, 0, k, 1), gaussOutcome(impl.AddKink(g, 0, k, 1)), impl.ErrRange)
			wantCode(t, call("AddKink", name, end, k, -1), gaussOutcome(impl.AddKink(g, end, k, -1)), impl.ErrRange)
			wantCode(t, call("AddPair", name, 0, end, k, 0), gaussOutcome(impl.AddPair(g, 0, end, k, 0)), impl.ErrRange)
			wantCode(t, call("AddPair", name, 0, end, 1, k), gaussOutcome(impl.AddPair(g, 0, end, 1, k)), impl.ErrRange)
			wantCode(t, call("AddPair", name, 0, 0, k, k), gaussOutcome(impl.AddPair(g, 0, 0, k, k)), impl.ErrRange)
			if k != -1 {
				wantCode(t, call("AddKink", name, 0, 0, k), gaussOutcome(impl.AddKink(g, 0, 0, k)), impl.ErrRange)
				wantCode(t, call("AddKink", name, end, 1, k), gaussOutcome(impl.AddKink(g, end, 1, k)), impl.ErrRange)
			}
		}
		wantCode(t, call("AddKink", name, 0, 0, 0), gaussOutcome(impl.AddKink(g, 0, 0, 0)), impl.ErrRange)
		wantCode(t, call("AddKink", name, 0, 1, 0), gaussOutcome(impl.AddKink(g, 0, 1, 0)), impl.ErrRange)
		for p := range end + 1 {
			for q := range p {
				wantCode(t, call("AddPair", name, p, q), gaussOutcome(impl.AddPair(g, p, q, 0, 1)), impl.ErrRange)
			}
		}
	}
}

// TestTooManyChords takes each place, Head, Sign and kind.
func TestTooManyChords(t *testing.T) {
	for _, g := range slices.Concat(someGaussOfSize(5, 100, 1), someGaussOfSize(6, 1000, 1)) {
		name, end := spellGauss(g), int64(len(g.Word))
		for q := range end + 1 {
			for _, head := range []int64{0, 1} {
				for _, sign := range []int64{1, -1} {
					moved, code := impl.AddKink(g, q, head, sign)
					if len(g.Heads) == impl.MaxChords {
						wantCode(t, call("AddKink", name, q, head, sign), gaussOutcome(moved, code), impl.ErrLimit)
						continue
					}
					wantGauss(t, call("AddKink", name, q, head, sign), moved, code, kinkedGauss(g, int(q), head, sign))
				}
				for p := range q + 1 {
					for _, kind := range []int64{0, 1} {
						wantCode(t, call("AddPair", name, p, q, kind, head), gaussOutcome(impl.AddPair(g, p, q, kind, head)), impl.ErrLimit)
					}
				}
			}
		}
	}
}

// TestChordsThatNoOppositeTakesAway has each condition that does not hold, alone and with others.
func TestChordsThatNoOppositeTakesAway(t *testing.T) {
	for _, c := range []struct {
		text string
		i    int64
	}{
		{"a+ub-oab", 0}, {"a+ub-oab", 1}, {"a+ub-oba", 0}, {"a+ub-oc+oabc", 1}, {"a+ub-oc+obca", 2}, {"a+ub-oc+ocba", 0}, {"a+ub-oc+ocba", 1},
	} {
		wantCode(t, call("RemoveKink", c.text, c.i), gaussOutcome(impl.RemoveKink(readGauss(c.text), c.i)), impl.ErrState)
	}
	for _, c := range []struct {
		text string
		i, k int64
	}{
		// Equal Signs, other Heads, and both.
		{"a+ub+uab", 0, 1}, {"a-ob-oba", 0, 1}, {"a+ub-oab", 0, 1}, {"a-ob+uba", 0, 1}, {"a+ub+oab", 0, 1}, {"a-ub-oba", 0, 1},
		// First places, second places, and both that are not next to each other.
		{"a+ub+oc-uacb", 0, 2}, {"a+ub+oc-ubac", 0, 2}, {"a+ub+oc-ucab", 0, 2}, {"a+ub-uc+oacb", 0, 1}, {"a+ub-uc+obca", 0, 1},
		{"a+uab-ub", 0, 1}, {"a+uab-uc+ucb", 0, 1}, {"a+ub-oc-ud+oabcd", 0, 2}, {"a+ub+oc-uabc", 0, 2},
	} {
		g := readGauss(c.text)
		wantCode(t, call("RemovePair", c.text, c.i, c.k), gaussOutcome(impl.RemovePair(g, c.i, c.k)), impl.ErrState)
		wantCode(t, call("RemovePair", c.text, c.k, c.i), gaussOutcome(impl.RemovePair(g, c.k, c.i)), impl.ErrState)
	}
}

// wantText checks that ParseGauss takes a text just if it is one.
func wantText(t *testing.T, text string) bool {
	t.Helper()
	g, code := impl.ParseGauss(text)
	if !isGaussTextByDefinition(text) {
		wantCode(t, call("ParseGauss", text), gaussOutcome(g, code), impl.ErrSyntax)
		return false
	}
	wantGauss(t, call("ParseGauss", text), g, code, readGauss(text))
	return true
}

// TestAllShortTexts takes all texts of some letters up to the length of two chords.
func TestAllShortTexts(t *testing.T) {
	const alphabet = "ab+-ou"
	texts := []string{""}
	found := 0
	for size := 0; size <= 8; size++ {
		var longer []string
		for _, text := range texts {
			if wantText(t, text) {
				found++
			}
			for place := range alphabet {
				if size < 8 {
					longer = append(longer, text+alphabet[place:place+1])
				}
			}
		}
		if t.Failed() {
			return
		}
		texts = longer
	}
	if found != 1+4+3*16 {
		t.Errorf("there are %d texts", found)
	}
}

// TestTextsWithOneChange replaces, adds, takes away and exchanges single bytes.
func TestTextsWithOneChange(t *testing.T) {
	list := append(everyOther(someGauss(), 60), readGauss("a-ob+uc-od+ue-of+ufedcba"))
	for _, g := range list {
		text := spellGauss(g)
		for place := range len(text) + 1 {
			for letter := range 256 {
				wantText(t, text[:place]+string([]byte{byte(letter)})+text[place:])
				if place < len(text) {
					wantText(t, text[:place]+string([]byte{byte(letter)})+text[place+1:])
				}
			}
			if place < len(text) {
				wantText(t, text[:place]+text[place+1:])
				wantText(t, text[:place])
				wantText(t, text[place:])
			}
			if place+1 < len(text) {
				wantText(t, text[:place]+text[place+1:place+2]+text[place:place+1]+text[place+2:])
			}
		}
		if t.Failed() {
			return
		}
	}
}

func TestTextsThatAreNone(t *testing.T) {
	for _, text := range []string{
		"a", "+", "o", "aa", "a+", "a+u", "a+a", "aua", "a+aua", "au+a", "+uaa", "a+uaa", "a+ua+u", "aa+u", "b+ub", "A+UA", "a+ua ", " a+ua", "a +ua",
		"a+ua\n", "a+0a", "a1ua", "a++a", "auoa", "a+uoa", "a+-ua", "a+ub-o", "a+ub-oa", "a+ub-oaa", "a+ub-oabb", "a+ubab", "a+uba-ob", "a+ub-obb",
		"a+ua+ua", "b+ua-ob", "a+uc-oac", "a+ub-obab", "a+ua|", "a+u\x00a", "é+ué", "a+uab", "a+uag+og", "ab+-uoab", "a+b-uoab", "ab-oa+ub",
		"a+ub-oc+ud-oe+of-ug+oabcdefg", "a+uab+ubc+ucd+ude+uef+ufg+ug", "`+u`", "a+ua`", "\xe1+u\xe1", "a+ua\xff",
		strings.Repeat("a", 24), strings.Repeat("a", 1<<20), strings.Repeat("+", 1<<20), "a+ua" + strings.Repeat("b", 1<<20), strings.Repeat("a+ua", 1<<18),
	} {
		if isGaussTextByDefinition(text) {
			t.Errorf("%.30q is a text", text)
		}
		wantCode(t, call("ParseGauss", text[:min(len(text), 30)]), gaussOutcome(impl.ParseGauss(text)), impl.ErrSyntax)
	}
}

// gaussFromGauss are the calls that return a Gauss word, with numbers in their ranges.
func gaussFromGauss() map[string]func(g impl.Gauss) [][]int64 {
	return map[string]func(g impl.Gauss) [][]int64{
		"ReverseGauss":  func(g impl.Gauss) [][]int64 { return listsOfGauss(impl.ReverseGauss(g)) },
		"MirrorGauss":   func(g impl.Gauss) [][]int64 { return listsOfGauss(impl.MirrorGauss(g)) },
		"SwitchChord":   func(g impl.Gauss) [][]int64 { return listsOfGauss(impl.SwitchChord(g, 0)) },
		"RotateGauss":   func(g impl.Gauss) [][]int64 { return listsOfGauss(impl.RotateGauss(g, 0)) },
		"RotateGauss 1": func(g impl.Gauss) [][]int64 { return listsOfGauss(impl.RotateGauss(g, 1)) },
		"AddKink":       func(g impl.Gauss) [][]int64 { return listsOfGauss(impl.AddKink(g, 0, 1, -1)) },
		"RemoveKink":    func(g impl.Gauss) [][]int64 { return listsOfGauss(impl.RemoveKink(g, 1)) },
		"AddPair":       func(g impl.Gauss) [][]int64 { return listsOfGauss(impl.AddPair(g, 0, 2, 1, 1)) },
		"RemovePair":    func(g impl.Gauss) [][]int64 { return listsOfGauss(impl.RemovePair(g, 0, 1)) },
		"ParseGauss":    func(g impl.Gauss) [][]int64 { return listsOfGauss(impl.ParseGauss(spellGauss(g))) },
	}
}

func TestGaussWordsShareNothing(t *testing.T) {
	for name, get := range gaussFromGauss() {
		for _, g := range append(everyOther(someGauss(), 31), readGauss("a+ub-uc+oabc"), readGauss("a+ub-uc+ucab"), impl.Gauss{}) {
			inside, isUntouched := gaussInRoom(g)
			wantNothingShared(t, name+" of "+spellGauss(g), func() [][]int64 { return get(inside) }, isUntouched)
		}
	}
}

// TestNumbersOfGaussWordsChangeNothing takes the functions that return a number or a text, those that
// fail, and values that are no Gauss words.
func TestNumbersOfGaussWordsChangeNothing(t *testing.T) {
	for _, g := range slices.Concat(everyOther(someGauss(), 29), everyOther(notGauss(), 7)) {
		inside, isUntouched := gaussInRoom(g)
		impl.IsGauss(inside)
		for _, k := range []int64{0, 1, 2, 12, -1} {
			for _, get := range gaussCalls(k) {
				get(inside)
			}
		}
		if !isUntouched() {
			t.Errorf("a function of Gauss words changes %s or what is behind it", spellGauss(g))
		}
	}
}

// TestListsThatShareMemory takes Gauss words whose lists lie in one list, or are the same one.
func TestListsThatShareMemory(t *testing.T) {
	ones := []int64{1, 1}
	numbers := []int64{0, 1, 0, 1, 1, 1}
	for _, g := range []impl.Gauss{gauss(numbers[:4], numbers[4:], numbers[4:]), gauss(numbers[:4], ones, ones), gauss(numbers[:4], numbers[:2], numbers[4:])} {
		apart := copyGauss(g)
		moved, code := impl.ReverseGauss(g)
		wantGauss(t, "ReverseGauss", moved, code, reversedGauss(apart))
		moved, code = impl.MirrorGauss(g)
		wantGauss(t, "MirrorGauss", moved, code, mirroredGauss(apart))
		moved, code = impl.AddPair(g, 1, 3, 1, 0)
		wantGauss(t, "AddPair", moved, code, pairedGauss(apart, 1, 3, 1, 0))
		count, code := impl.CountPattern(g, g)
		wantValue(t, "CountPattern", count, code, 1)
		if !equalGauss(g, apart) {
			t.Errorf("%s is changed", spellGauss(apart))
		}
	}
}

// TestGaussWordsAtTheSameTime moves Gauss words, and fails to, at the same time.
func TestGaussWordsAtTheSameTime(t *testing.T) {
	var callers sync.WaitGroup
	for _, g := range everyOther(gaussUpTo(4), 50) {
		for range 5 {
			callers.Go(func() {
				end := len(g.Word)
				moved, code := impl.AddPair(g, 0, int64(end), 1, 1)
				wantGauss(t, call("AddPair again", spellGauss(g)), moved, code, pairedGauss(g, 0, end, 1, 1))
				wantCode(t, "RotateGauss too far", gaussOutcome(impl.RotateGauss(g, int64(end+1))), impl.ErrRange)
				wantCode(t, "RemoveKink of a pair", gaussOutcome(impl.RemoveKink(moved, 0)), impl.ErrState)
				wantSecond(t, "again", moved, secondByDefinition(g))
			})
		}
	}
	callers.Wait()
}
