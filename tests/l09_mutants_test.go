package tests

import (
	"slices"
	"testing"

	"loop.example/g01303/impl"
)

// sharedWords are all words of at most 4 chords, and some of 5 and of MaxChords chords.
func sharedWords(five, six int) [][]int64 {
	return slices.Concat(wordsUpTo(4), everyOther(wordsOfSize(5), five), everyOther(wordsOfSize(impl.MaxChords), six))
}

// wantMutantAlike checks that the mutant of a share by a kind is a word with the crossings of w, up to
// the numbers of chords.
func wantMutantAlike(t *testing.T, w, a []int64, kind int64) {
	t.Helper()
	mutant := mustMutate(t, w, a, kind)
	what := call("MutateWord", letters(w), a, kind)
	if !impl.IsWord(mutant) || !areAlikeByDefinition(w, mutant) {
		t.Fatalf("%s = %v is not alike", what, mutant)
	}
	wantAlike(t, w, mutant, true)
	crossings, _ := impl.CountCrossings(w)
	others, code := impl.CountCrossings(mutant)
	wantValue(t, "CountCrossings of "+what, others, code, crossings)
}

func TestMutantsAreAlike(t *testing.T) {
	for _, w := range sharedWords(29, 1511) {
		for number, a := range everyOther(sharesOfAnySize(w), 1+len(w)/3) {
			wantMutantAlike(t, w, a, int64(number%len(mutantKinds)))
		}
	}
	for _, w := range wordsUpTo(3) {
		for _, a := range sharesOfAnySize(w) {
			for _, kind := range mutantKinds {
				wantMutantAlike(t, w, a, kind)
			}
		}
	}
}

// wantMutantWeights checks that the mutant of a share by a kind has the gl and the so weight of w, as
// promised, and the other ones, as all of them are told by the crossings.
func wantMutantWeights(t *testing.T, w, a []int64, kind int64) {
	t.Helper()
	mutant := mustMutate(t, w, a, kind)
	wantSameWeights(t, w, mutant)
	for _, weigh := range []func(w []int64) ([]int64, int64){impl.GlWeight, impl.SoWeight} {
		weight, _ := weigh(w)
		other, code := weigh(mutant)
		wantWord(t, "weight of "+call("MutateWord", letters(w), a, kind), other, code, weight)
	}
}

func TestMutantsHaveTheSameWeights(t *testing.T) {
	for _, w := range sharedWords(41, 1201) {
		for number, a := range everyOther(sharesOfAnySize(w), 1+len(w)/3) {
			wantMutantWeights(t, w, a, int64(number%len(mutantKinds)))
		}
	}
	for _, w := range wordsUpTo(3) {
		for _, a := range sharesOfAnySize(w) {
			for _, kind := range mutantKinds {
				wantMutantWeights(t, w, a, kind)
			}
		}
	}
}

// TestMutantsMayNotBeTheSameOnTheCircle shows that mutants are not just words that are rotated or
// reflected.
func TestMutantsMayNotBeTheSameOnTheCircle(t *testing.T) {
	for _, kind := range mutantKinds {
		changed := 0
		for _, w := range wordsOfSize(4) {
			for _, a := range sharesByDefinition(w) {
				mutant := mustMutate(t, w, a, kind)
				least := leastByDefinition(mutant)
				if !slices.Equal(least, leastByDefinition(w)) && !slices.Equal(least, leastByDefinition(reflectedByDefinition(w))) {
					changed++
				}
			}
		}
		if changed == 0 {
			t.Errorf("all mutants by the kind %d are rotated or reflected words", kind)
		}
	}
}

func TestSomeMutants(t *testing.T) {
	for _, example := range []struct {
		word   string
		places []int64
		kind   int64
		want   string
	}{
		{"abbcac", []int64{1, 3, 5, 5}, 0, "abaccb"}, {"abbcac", []int64{1, 3, 5, 5}, 2, "abaccb"}, {"abbcac", []int64{1, 3, 5, 5}, 1, "abbcac"},
		{"abcacb", []int64{1, 3, 4, 6}, 1, "abcacb"}, {"abcacb", []int64{1, 3, 4, 6}, 0, "abcacb"}, {"abcabc", []int64{1, 3, 4, 6}, 1, "abcabc"},
		{"aabcbc", []int64{0, 2, 2, 6}, 0, "ababcc"}, {"aabbcdcd", []int64{0, 2, 4, 8}, 0, "ababccdd"}, {"aabbcdcd", []int64{0, 2, 4, 8}, 1, "aabbcdcd"},
		{"aabcdbdc", []int64{3, 5, 6, 8}, 0, "aabcdbdc"}, {"aabccdbd", []int64{2, 5, 6, 7}, 0, "aabcbddc"},
		{"aabccdbd", []int64{2, 5, 6, 7}, 1, "aabbcdcd"}, {"aabccdbd", []int64{2, 5, 6, 7}, 2, "aabcddbc"},
		{"", []int64{0, 0, 0, 0}, 0, ""}, {"aa", []int64{0, 1, 1, 2}, 2, "aa"}, {"abacdbdc", []int64{3, 4, 7, 8}, 2, "abacdbdc"},
	} {
		mutant, code := mutate(spelt(example.word), example.places, example.kind)
		wantWord(t, call("MutateWord", example.word, example.places, example.kind), mutant, code, spelt(example.want))
	}
}

// TestMutantsByDefinition takes all places in their order, those whose arcs are no share among them.
func TestMutantsByDefinition(t *testing.T) {
	for _, w := range sharedWords(5, 211) {
		for _, a := range allArcs(w) {
			isShare := isShareByDefinition(w, a)
			wantShare(t, w, a, isShare)
			for _, kind := range mutantKinds {
				mutant, code := mutate(w, a, kind)
				what := call("MutateWord", letters(w), a, kind)
				if !isShare {
					wantCode(t, what, listOutcome(mutant, code), impl.ErrState)
					continue
				}
				wantWord(t, what, mutant, code, mutantByDefinition(w, a, kind))
			}
		}
		if t.Failed() {
			return
		}
	}
}

// TestArcsWithoutPlacesAndWithAll takes arcs that are a share of each word: none of the places, all of
// them in either arc, or in both.
func TestArcsWithoutPlacesAndWithAll(t *testing.T) {
	for _, w := range wordsUpTo(impl.MaxChords) {
		end := int64(len(w))
		reflected := reflectedByDefinition(w)
		for _, a := range [][]int64{{0, 0, 0, 0}, {0, 0, end, end}, {end, end, end, end}, {0, 0, end / 2, end / 2}, {end / 2, end / 2, end / 2, end / 2}} {
			wantShare(t, w, a, true)
			for _, kind := range mutantKinds {
				wantWord(t, call("MutateWord", letters(w), a, kind), mustMutate(t, w, a, kind), 0, w)
			}
		}
		for _, a := range [][]int64{{0, end, end, end}, {0, 0, 0, end}} {
			wantShare(t, w, a, true)
			for kind, want := range [][]int64{w, reflected, reflected} {
				wantWord(t, call("MutateWord", letters(w), a, kind), mustMutate(t, w, a, int64(kind)), 0, want)
			}
		}
		for q := range end + 1 {
			a := []int64{0, q, q, end}
			wantShare(t, w, a, true)
			// Arcs next to each other that have all places are exchanged by a rotation.
			wantWord(t, call("MutateWord", letters(w), a, 0), mustMutate(t, w, a, 0), 0, rotatedByDefinition(w, int(q)))
			wantWord(t, call("MutateWord", letters(w), a, 2), mustMutate(t, w, a, 2), 0, reflected)
		}
	}
}

func TestMutantsOfMutantsLeadBack(t *testing.T) {
	for _, w := range sharedWords(3, 61) {
		for _, a := range sharesOfAnySize(w) {
			for _, kind := range mutantKinds {
				mutant := mustMutate(t, w, a, kind)
				back := slices.Clone(a)
				if kind != 1 {
					// Exchanged arcs have each other's lengths.
					back[1], back[2] = a[0]+a[3]-a[2], a[3]-(a[1]-a[0])
				}
				again := mustMutate(t, mutant, back, kind)
				wantWord(t, call("MutateWord twice", letters(w), a, kind), again, 0, w)
			}
		}
	}
}

// TestArcsOfEqualLengthsLeadBack takes the same places twice, for each kind.
func TestArcsOfEqualLengthsLeadBack(t *testing.T) {
	for _, w := range slices.Concat(wordsUpTo(5), everyOther(wordsOfSize(impl.MaxChords), 41)) {
		for _, a := range sharesOfAnySize(w) {
			if a[1]-a[0] != a[3]-a[2] {
				continue
			}
			for _, kind := range mutantKinds {
				mutant := mustMutate(t, w, a, kind)
				wantWord(t, call("MutateWord twice", letters(w), a, kind), mustMutate(t, mutant, a, kind), 0, w)
			}
		}
	}
}

func TestSharesByDefinition(t *testing.T) {
	for _, w := range slices.Concat(wordsUpTo(5), everyOther(wordsOfSize(impl.MaxChords), 31)) {
		shares, code := impl.SharesOf(w)
		wantLists(t, call("SharesOf", letters(w)), shares, code, sharesByDefinition(w))
	}
}

func TestSomeShares(t *testing.T) {
	for text, want := range map[string][][]int64{
		"": nil, "aa": nil, "aabb": {{0, 1, 1, 2}, {2, 3, 3, 4}}, "abab": {{0, 1, 2, 3}, {1, 2, 3, 4}}, "abba": {{0, 1, 3, 4}, {1, 2, 2, 3}},
		"abcabc": {{0, 1, 3, 4}, {0, 2, 3, 5}, {1, 2, 4, 5}, {1, 3, 4, 6}, {2, 3, 5, 6}},
	} {
		shares, code := impl.SharesOf(spelt(text))
		wantLists(t, call("SharesOf", text), shares, code, want)
	}
}

func TestCrossingCodesByDefinition(t *testing.T) {
	for n := range impl.MaxChords + 1 {
		orders := ordersByDefinition(n)
		for _, w := range everyOther(wordsOfSize(n), 1+n/impl.MaxChords*6) {
			crossings, code := impl.CrossingCode(w)
			wantWord(t, call("CrossingCode", letters(w)), crossings, code, crossingCodeByDefinition(w, orders))
		}
	}
}

// TestCrossingCodesOfExtremes takes words without crossings and words with all of them.
func TestCrossingCodesOfExtremes(t *testing.T) {
	for n := range impl.MaxChords + 1 {
		all := make([]int64, 2*n)
		for place := range all {
			all[place] = int64(place % n)
		}
		crossings, code := impl.CrossingCode(all)
		wantWord(t, call("CrossingCode", letters(all)), crossings, code, slices.Repeat([]int64{1}, n*(n-1)/2))
		for _, w := range planarWords(n) {
			crossings, code := impl.CrossingCode(w)
			wantWord(t, call("CrossingCode", letters(w)), crossings, code, make([]int64, n*(n-1)/2))
			wantAlike(t, w, all, n < 2)
		}
	}
}

// TestAlikeWordsByDefinition takes each two words, also ones of different numbers of chords; of the
// longer ones it takes one word for each circle, or some of these.
func TestAlikeWordsByDefinition(t *testing.T) {
	for _, words := range [][][]int64{
		wordsUpTo(3), wordsOfSize(4), everyOther(circleWords(5), 2), everyOther(circleWords(impl.MaxChords), 31), everyOther(wordsUpTo(impl.MaxChords), 431),
	} {
		for i, a := range words {
			for _, b := range words[:i+1] {
				wantAlike(t, a, b, areAlikeByDefinition(a, b))
			}
		}
	}
}

func TestWordsOfDifferentSizesAreNotAlike(t *testing.T) {
	for n := range impl.MaxChords + 1 {
		for other := range n {
			// Without chords that cross, codes are zeros, and for 0 and 1 chords they are equal.
			wantAlike(t, planarWords(n)[0], planarWords(other)[0], false)
			wantAlike(t, wordsOfSize(n)[len(wordsOfSize(n))/2], wordsOfSize(other)[0], false)
		}
	}
}

// TestSomeAlikeWords takes words that are alike though neither the same on the circle nor mirrored, and
// words that are not alike though equally many chords cross, and each one as many others.
func TestSomeAlikeWords(t *testing.T) {
	for _, example := range []struct {
		a, b string
		want bool
	}{
		{"aabbcc", "aabccb", true}, {"abbacc", "aabbcc", true}, {"abcacb", "abacbc", true}, {"abcacb", "abcabc", false}, {"ababcc", "abacbc", false},
		{"ababcdcd", "abacbdcd", false}, {"", "", true}, {"aa", "aa", true}, {"", "aa", false}, {"aabb", "aa", false},
		{"abcabcdefdef", "abacbdcedfef", false}, {"abcabcdefdef", "abcdabcefdef", false},
	} {
		a, b := spelt(example.a), spelt(example.b)
		if areAlikeByDefinition(a, b) != example.want {
			t.Fatalf("the example %s, %s is wrong", example.a, example.b)
		}
		wantAlike(t, a, b, example.want)
	}
	same, code := impl.AreSameOnCircle(spelt("aabbcc"), spelt("aabccb"))
	wantValue(t, "AreSameOnCircle", same, code, false)
}

// TestKindsOfCrossings counts the different codes of words of n chords: the numbers of graphs with n
// corners, but for 2 of the 156 with 6 corners, which no chords have.
func TestKindsOfCrossings(t *testing.T) {
	for n, want := range []int{1, 1, 2, 4, 11, 34, 154} {
		var codes [][]int64
		for _, w := range circleWords(n) {
			crossings, code := impl.CrossingCode(w)
			if code != impl.ErrNone {
				t.Errorf("CrossingCode(%s): code %d", letters(w), code)
			}
			codes = append(codes, crossings)
		}
		slices.SortFunc(codes, slices.Compare)
		if got := len(slices.CompactFunc(codes, slices.Equal)); got != want {
			t.Errorf("%d different codes of %d chords; want %d", got, n, want)
		}
	}
}

// TestRotatedWordsAreAlike rotates and reflects words, which keeps their crossings.
func TestRotatedWordsAreAlike(t *testing.T) {
	for number, w := range sharedWords(7, 97) {
		wantAlike(t, w, reflectedByDefinition(w), true)
		wantAlike(t, w, rotatedByDefinition(w, number%(len(w)+1)), true)
	}
}
