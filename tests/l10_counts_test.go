package tests

import (
	"slices"
	"testing"

	"loop.example/g01303/impl"
)

// TestColouringPolynomialsTellColourings holds the values of the polynomials and the numbers of colourings
// against colourings that are counted one by one.
func TestColouringPolynomialsTellColourings(t *testing.T) {
	for _, w := range slices.Concat(wordsUpTo(5), everyOther(wordsOfSize(impl.MaxChords), 19), everyOther(circleWords(impl.MaxChords), 3), [][]int64{allCrossing(6), pairOff(6)}) {
		polynomial, code := impl.ColouringPolynomial(w)
		if code != impl.ErrNone || len(polynomial) != len(w)/2+1 {
			t.Fatalf("ColouringPolynomial(%s) = %v, code %d", letters(w), polynomial, code)
		}
		for k := range int64(maxColours + 1) {
			want := colouringsByDefinition(w, k)
			count, code := impl.CountColourings(w, k)
			wantValue(t, call("CountColourings", letters(w), k), count, code, want)
			wantValue(t, call("ColouringPolynomial", letters(w))+call(" at", k), valueOfNumbers(polynomial, k), impl.ErrNone, want)
		}
	}
}

// TestColouringPolynomialsOfAllWords holds the counts of both functions against each other for all words.
func TestColouringPolynomialsOfAllWords(t *testing.T) {
	for _, w := range wordsOfSize(impl.MaxChords) {
		polynomial, _ := impl.ColouringPolynomial(w)
		for k := range int64(maxColours + 1) {
			count, code := impl.CountColourings(w, k)
			wantValue(t, call("CountColourings", letters(w), k), count, code, valueOfNumbers(polynomial, k))
		}
	}
}

func TestColouringPolynomialsByParts(t *testing.T) {
	for _, w := range slices.Concat(wordsUpTo(5), everyOther(wordsOfSize(impl.MaxChords), 23), [][]int64{allCrossing(impl.MaxChords)}) {
		got, code := impl.ColouringPolynomial(w)
		wantWord(t, call("ColouringPolynomial", letters(w)), got, code, colouringByParts(w))
	}
}

func TestLeastColoursByDefinition(t *testing.T) {
	for _, w := range wordsUpTo(impl.MaxChords) {
		least, code := impl.LeastColours(w)
		wantValue(t, call("LeastColours", letters(w)), least, code, leastByTrial(w))
	}
}

// TestLeastColoursAreTheFirstOnes takes the first number of colours for which CountColourings has any.
func TestLeastColoursAreTheFirstOnes(t *testing.T) {
	for _, w := range slices.Concat(wordsUpTo(5), everyOther(wordsOfSize(impl.MaxChords), 9)) {
		least, code := impl.LeastColours(w)
		for k := range int64(maxColours + 1) {
			count, _ := impl.CountColourings(w, k)
			wantValue(t, call("LeastColours", letters(w), k), k >= least, code, count > 0)
		}
	}
}

func TestSetsByDefinition(t *testing.T) {
	for _, w := range wordsUpTo(impl.MaxChords) {
		got, code := impl.IndependentNumbers(w)
		wantWord(t, call("IndependentNumbers", letters(w)), got, code, setsByDefinition(w, false))
		got, code = impl.CliqueNumbers(w)
		wantWord(t, call("CliqueNumbers", letters(w)), got, code, setsByDefinition(w, true))
		got, code = impl.MatchingNumbers(w)
		wantWord(t, call("MatchingNumbers", letters(w)), got, code, matchingsByDefinition(w))
	}
}

// TestSmallSets has one set of no chord, one for each chord, and one for each pair that crosses or does not.
func TestSmallSets(t *testing.T) {
	for _, w := range wordsUpTo(impl.MaxChords) {
		if len(w) < 4 {
			continue
		}
		n, crossings := int64(len(w)/2), int64(len(crossingPairs(w)))
		independent, code := impl.IndependentNumbers(w)
		wantWord(t, call("IndependentNumbers", letters(w)), independent[:3], code, []int64{1, n, n*(n-1)/2 - crossings})
		cliques, code := impl.CliqueNumbers(w)
		wantWord(t, call("CliqueNumbers", letters(w)), cliques[:3], code, []int64{1, n, crossings})
		matchings, code := impl.MatchingNumbers(w)
		wantWord(t, call("MatchingNumbers", letters(w)), matchings[:2], code, []int64{1, crossings})
	}
}

// TestGraphsWithoutAndWithAllCrossings has the numbers of both as they are known.
func TestGraphsWithoutAndWithAllCrossings(t *testing.T) {
	choose := func(n, k int) int64 { return binomial(n, 1, 1)[k] }
	for n := range impl.MaxChords + 1 {
		one, chosen := make([]int64, n+1), make([]int64, n+1)
		for k := range n + 1 {
			one[k], chosen[k] = 0, choose(n, k)
		}
		one[n] = 1
		atMostOne := append([]int64{1, int64(n)}, make([]int64, n)...)[:n+1]
		matchings := make([]int64, n/2+1)
		matchings[0] = 1
		for _, w := range [][]int64{pairOff(n), nestedChords(n)} {
			wantGraphNumbers(t, w, one, chosen, atMostOne, one, int64(min(n, 1)), matchings)
		}
		interlace, falling := []int64{1}, []int64{1}
		if n > 0 {
			interlace = make([]int64, n+1)
			interlace[1] = powerOf(2, int64(n-1))
		}
		for k := range n {
			falling = productOfNumbers(falling, []int64{-int64(k), 1})
		}
		// Of n chords 2 k are chosen, and the first one of those that are left has any other one with it.
		for k := range matchings {
			matchings[k] = choose(n, 2*k) * oddProduct(int64(k))
		}
		wantGraphNumbers(t, allCrossing(n), interlace, atMostOne, chosen, falling, int64(n), matchings)
	}
}

// nestedChords returns the word of n chords, each but the first one inside the one ahead.
func nestedChords(n int) []int64 {
	w := chordsBeside(pairOff(n), nil)
	return append(w, backward(w)...)
}

// TestSomeGraphs has a path, a star, a cycle, and a triangle beside a chord.
func TestSomeGraphs(t *testing.T) {
	for _, example := range []struct {
		word                                       string
		interlace, independent, cliques, colouring []int64
		least                                      int64
		matchings                                  []int64
	}{
		{"abacbc", []int64{0, 2, 1, 0}, []int64{1, 3, 1, 0}, []int64{1, 3, 2, 0}, []int64{0, 1, -2, 1}, 2, []int64{1, 2}},
		{"abacbdcd", []int64{0, 2, 3, 0, 0}, []int64{1, 4, 3, 0, 0}, []int64{1, 4, 3, 0, 0}, []int64{0, -1, 3, -3, 1}, 2, []int64{1, 3, 1}},
		{"abcdadcb", []int64{0, 2, 1, 1, 0}, []int64{1, 4, 3, 1, 0}, []int64{1, 4, 3, 0, 0}, []int64{0, -1, 3, -3, 1}, 2, []int64{1, 3, 0}},
		{"abcdbadc", []int64{0, 2, 3, 0, 0}, []int64{1, 4, 2, 0, 0}, []int64{1, 4, 4, 0, 0}, []int64{0, -3, 6, -4, 1}, 2, []int64{1, 4, 2}},
		{"aabcdbcd", []int64{0, 0, 4, 0, 0}, []int64{1, 4, 3, 0, 0}, []int64{1, 4, 3, 1, 0}, []int64{0, 0, 2, -3, 1}, 3, []int64{1, 3, 0}},
	} {
		w := spelt(example.word)
		if !slices.Equal(example.interlace, interlaceByDefinition(w)) || !slices.Equal(example.colouring, colouringByParts(w)) {
			t.Fatalf("the example %s is wrong: %v, %v", example.word, interlaceByDefinition(w), colouringByParts(w))
		}
		wantGraphNumbers(t, w, example.interlace, example.independent, example.cliques, example.colouring, example.least, example.matchings)
	}
}

// TestChordsThatCrossNoOther adds a chord both of whose places are side by side: the polynomials are
// multiplied by x, each set of chords is independent with it as well, and it is in no pair.
func TestChordsThatCrossNoOther(t *testing.T) {
	for _, w := range slices.Concat(wordsUpTo(4), everyOther(wordsOfSize(5), 7)) {
		for p := 0; p <= len(w); p++ {
			longer := addedByDefinition(w, p, p)
			independent := productOfNumbers(setsByDefinition(w, false), []int64{1, 1})
			cliques := append(setsByDefinition(w, true), 0)
			cliques[1]++
			matchings := append(matchingsByDefinition(w), 0)[:len(longer)/4+1]
			interlace := append([]int64{0}, interlaceByDefinition(w)...)
			colouring := append([]int64{0}, colouringByParts(w)...)
			wantGraphNumbers(t, longer, interlace, independent, cliques, colouring, max(leastByTrial(w), 1), matchings)
		}
	}
}

// TestMatchingsOfHalfOfTheChords takes words whose chords all are in pairs, but for one of an odd number.
func TestMatchingsOfHalfOfTheChords(t *testing.T) {
	for _, example := range []struct {
		word string
		want []int64
	}{
		{"", []int64{1}}, {"aa", []int64{1}}, {"abab", []int64{1, 1}}, {"aabb", []int64{1, 0}}, {"abacbc", []int64{1, 2}}, {"ababcc", []int64{1, 1}},
		{"ababcdcd", []int64{1, 2, 1}}, {"abcdabcd", []int64{1, 6, 3}}, {"ababcdcdee", []int64{1, 2, 1}}, {"abcdeabcde", []int64{1, 10, 15}},
		{"ababcdcdefef", []int64{1, 3, 3, 1}}, {"abcdefabcdef", []int64{1, 15, 45, 15}}, {"abacbdcedfef", []int64{1, 5, 6, 1}},
	} {
		got, code := impl.MatchingNumbers(spelt(example.word))
		wantWord(t, call("MatchingNumbers", example.word), got, code, example.want)
	}
}
