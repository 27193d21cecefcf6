package tests

import (
	"runtime"
	"slices"
	"sync"
	"testing"
	"time"

	"loop.example/g01303/impl"
)

// TestGraphsOfNoWords takes lists that are no words, beside chords, colours and values in their range and
// beyond: ErrInvalid comes first.
func TestGraphsOfNoWords(t *testing.T) {
	for _, bad := range notWords() {
		name := call(" with", bad[:min(len(bad), 20)])
		for _, i := range []int64{0, 1, 6, -1, oddNumbers[0], oddNumbers[len(oddNumbers)-1]} {
			wantCode(t, call("LocalComplement", i)+name, listOutcome(impl.LocalComplement(bad, i)), impl.ErrInvalid)
			for _, k := range []int64{0, 1, i} {
				wantCode(t, call("PivotWord", i, k)+name, listOutcome(impl.PivotWord(bad, i, k)), impl.ErrInvalid)
			}
			wantCode(t, call("CountColourings", i)+name, valueOutcome(impl.CountColourings(bad, i)), impl.ErrInvalid)
			wantCode(t, call("ValueOfInterlace", i)+name, valueOutcome(impl.ValueOfInterlace(bad, i)), impl.ErrInvalid)
		}
		wantCode(t, "InterlacePolynomial"+name, listOutcome(impl.InterlacePolynomial(bad)), impl.ErrInvalid)
		wantCode(t, "IndependentNumbers"+name, listOutcome(impl.IndependentNumbers(bad)), impl.ErrInvalid)
		wantCode(t, "CliqueNumbers"+name, listOutcome(impl.CliqueNumbers(bad)), impl.ErrInvalid)
		wantCode(t, "ColouringPolynomial"+name, listOutcome(impl.ColouringPolynomial(bad)), impl.ErrInvalid)
		wantCode(t, "LeastColours"+name, valueOutcome(impl.LeastColours(bad)), impl.ErrInvalid)
		wantCode(t, "MatchingNumbers"+name, listOutcome(impl.MatchingNumbers(bad)), impl.ErrInvalid)
		for _, good := range [][]int64{nil, spelt("aa"), spelt("abcacb"), allCrossing(impl.MaxChords)} {
			wantCode(t, "AreAlikeGraphs first"+name, valueOutcome(impl.AreAlikeGraphs(bad, good)), impl.ErrInvalid)
			wantCode(t, "AreAlikeGraphs second"+name, valueOutcome(impl.AreAlikeGraphs(good, bad)), impl.ErrInvalid)
		}
		wantCode(t, "AreAlikeGraphs both"+name, valueOutcome(impl.AreAlikeGraphs(bad, bad)), impl.ErrInvalid)
		// The lists grow longer: a function that goes on with one of them may take hours over the next.
		if t.Failed() {
			return
		}
	}
}

// TestChordsOfGraphsOutOfRange takes chords that are none, as each of both of a pivot, beside each chord
// and beside themselves: ErrRange comes ahead of ErrState.
func TestChordsOfGraphsOutOfRange(t *testing.T) {
	for _, w := range slices.Concat(wordsUpTo(3), everyOther(wordsUpTo(impl.MaxChords), 503), [][]int64{allCrossing(impl.MaxChords)}) {
		n := int64(len(w) / 2)
		for _, wrong := range append([]int64{n, n + 1, 2 * n, -2}, oddNumbers...) {
			wantCode(t, call("LocalComplement", letters(w), wrong), listOutcome(impl.LocalComplement(w, wrong)), impl.ErrRange)
			for _, k := range append(chordsBeside(w, nil), wrong, n, -1) {
				wantCode(t, call("PivotWord", letters(w), wrong, k), listOutcome(impl.PivotWord(w, wrong, k)), impl.ErrRange)
				wantCode(t, call("PivotWord", letters(w), k, wrong), listOutcome(impl.PivotWord(w, k, wrong)), impl.ErrRange)
			}
		}
	}
}

// TestPivotsAtChordsThatDoNotCross takes each two chords of all words, the same one twice among them.
func TestPivotsAtChordsThatDoNotCross(t *testing.T) {
	for _, w := range wordsUpTo(impl.MaxChords) {
		for i := range int64(len(w) / 2) {
			for k := range int64(len(w) / 2) {
				if i == k || !crossByDefinition(w, i, k) {
					wantCode(t, call("PivotWord", letters(w), i, k), listOutcome(impl.PivotWord(w, i, k)), impl.ErrState)
				}
			}
		}
	}
}

func TestColoursAndValuesOutOfRange(t *testing.T) {
	for _, w := range slices.Concat(wordsUpTo(3), everyOther(wordsUpTo(impl.MaxChords), 307)) {
		for _, k := range notColours {
			wantCode(t, call("CountColourings", letters(w), k), valueOutcome(impl.CountColourings(w, k)), impl.ErrRange)
		}
		for _, x := range notInterlaced {
			wantCode(t, call("ValueOfInterlace", letters(w), x), valueOutcome(impl.ValueOfInterlace(w, x)), impl.ErrRange)
		}
	}
	if impl.MaxColours != maxColours {
		t.Errorf("MaxColours is %d", impl.MaxColours)
	}
}

// graphCalls are the calls with a word that return lists. The pivot is at the first two chords that cross.
func graphCalls() map[string]func(w []int64) [][]int64 {
	single := func(list []int64, _ int64) [][]int64 { return [][]int64{list} }
	return map[string]func(w []int64) [][]int64{
		"LocalComplement first": func(w []int64) [][]int64 { return single(impl.LocalComplement(w, 0)) },
		"LocalComplement last":  func(w []int64) [][]int64 { return single(impl.LocalComplement(w, int64(len(w)/2-1))) },
		"PivotWord": func(w []int64) [][]int64 {
			for _, pair := range crossingPairs(w) {
				return single(impl.PivotWord(w, pair[0], pair[1]))
			}
			return single(impl.PivotWord(w, 0, 0))
		},
		"InterlacePolynomial": func(w []int64) [][]int64 { return single(impl.InterlacePolynomial(w)) },
		"IndependentNumbers":  func(w []int64) [][]int64 { return single(impl.IndependentNumbers(w)) },
		"CliqueNumbers":       func(w []int64) [][]int64 { return single(impl.CliqueNumbers(w)) },
		"ColouringPolynomial": func(w []int64) [][]int64 { return single(impl.ColouringPolynomial(w)) },
		"MatchingNumbers":     func(w []int64) [][]int64 { return single(impl.MatchingNumbers(w)) },
	}
}

func TestGraphsShareNothing(t *testing.T) {
	for name, get := range graphCalls() {
		for _, text := range []string{"", "aa", "aabb", "abab", "abcacb", "abacbddc", "aabbccddeeff", "abcdefabcdef", "abacbdcedfef"} {
			w, isUntouched := inRoom(spelt(text))
			wantNothingShared(t, call(name, text), func() [][]int64 { return get(w) }, isUntouched)
		}
	}
}

// TestAnswersOfGraphsChangeNothing takes the functions that return no lists as well, and calls that fail.
func TestAnswersOfGraphsChangeNothing(t *testing.T) {
	for _, text := range []string{"", "aa", "abba", "abab", "abcacb", "aabcddbc", "abcdefabcdef", "abacbdcedfef"} {
		w, isUntouched := inRoom(spelt(text))
		other, isOtherUntouched := inRoom(allCrossing(len(w) / 2))
		for i := int64(-1); i <= 10; i++ {
			impl.LocalComplement(w, i)
			impl.CountColourings(w, i)
			impl.ValueOfInterlace(w, 20*i-50)
			for k := int64(-1); k <= 6; k++ {
				impl.PivotWord(w, i, k)
			}
		}
		impl.LeastColours(w)
		impl.AreAlikeGraphs(w, other)
		impl.AreAlikeGraphs(other, w)
		impl.AreAlikeGraphs(w, w)
		if !isUntouched() || !isOtherUntouched() {
			t.Errorf("a function changes %q, another word, or what is behind it", text)
		}
	}
}

// TestGraphsAtTheSameTime calls the same functions with the same words at the same time, and counts the
// goroutines behind them. The last one may still be about to return, so it is given some time.
func TestGraphsAtTheSameTime(t *testing.T) {
	before := runtime.NumGoroutine()
	w, other := spelt("abcacdbefdfe"), allCrossing(impl.MaxChords)
	interlace, colouring, matchings := interlaceByDefinition(w), colouringByParts(w), matchingsByDefinition(w)
	var callers sync.WaitGroup
	for range 20 {
		callers.Go(func() {
			for range 5 {
				got, code := impl.InterlacePolynomial(w)
				wantWord(t, "InterlacePolynomial again", got, code, interlace)
				got, code = impl.ColouringPolynomial(w)
				wantWord(t, "ColouringPolynomial again", got, code, colouring)
				got, code = impl.MatchingNumbers(w)
				wantWord(t, "MatchingNumbers again", got, code, matchings)
				wantAlikeGraphs(t, w, reflectedByDefinition(w), true)
				wantAlikeGraphs(t, w, other, false)
			}
		})
	}
	callers.Wait()
	for range 1000 {
		if runtime.NumGoroutine() <= before {
			return
		}
		time.Sleep(time.Millisecond)
	}
	t.Errorf("%d goroutines, and %d before", runtime.NumGoroutine(), before)
}
