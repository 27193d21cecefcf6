package tests

import (
	"slices"
	"testing"

	"loop.example/g01303/impl"
)

// someWords are all words of at most 5 chords, and some of MaxChords chords.
func someWords(step int) [][]int64 {
	return slices.Concat(wordsUpTo(5), everyOther(wordsOfSize(impl.MaxChords), step))
}

// wantSameWeights checks that another word has the weights of each kind and the twist numbers of w.
func wantSameWeights(t *testing.T, w, other []int64) {
	t.Helper()
	for _, kind := range kinds {
		weight, code := impl.WeightOfKind(other, kind)
		wantWord(t, call("WeightOfKind", letters(other), kind)+" as of "+letters(w), weight, code, mustWeigh(t, w, kind))
	}
	numbers, _ := impl.TwistNumbers(w)
	others, code := impl.TwistNumbers(other)
	wantWord(t, call("TwistNumbers", letters(other))+" as of "+letters(w), others, code, numbers)
	circles, _ := impl.CirclesOf(w, nil)
	otherCircles, code := impl.CirclesOf(other, nil)
	wantValue(t, call("CirclesOf", letters(other))+" as of "+letters(w), otherCircles, code, circles)
	conway, _ := impl.ConwayWeight(w)
	otherConway, code := impl.ConwayWeight(other)
	wantValue(t, call("ConwayWeight", letters(other))+" as of "+letters(w), otherConway, code, conway)
}

func TestWeightsDoNotChangeUnderRotations(t *testing.T) {
	for _, w := range wordsUpTo(4) {
		for k := range len(w) + 1 {
			turned, code := impl.RotateWord(w, int64(k))
			wantWord(t, call("RotateWord", letters(w), k), turned, code, rotatedByDefinition(w, k))
			wantSameWeights(t, w, turned)
		}
	}
	for number, w := range slices.Concat(wordsOfSize(5), wordsOfSize(impl.MaxChords)) {
		wantSameWeights(t, w, rotatedByDefinition(w, 1+number%(len(w)-1)))
	}
}

func TestWeightsDoNotChangeUnderReflections(t *testing.T) {
	for _, w := range wordsUpTo(impl.MaxChords) {
		reflected, code := impl.ReflectWord(w)
		wantWord(t, call("ReflectWord", letters(w)), reflected, code, reflectedByDefinition(w))
		wantSameWeights(t, w, reflected)
	}
}

// moved returns the numbers that the chords of a word have if it is read from the place k on, or
// backward from the end.
func moved(w []int64, chords []int64, k int, isBackward bool) []int64 {
	turned := slices.Concat(w[k:], w[:k])
	if isBackward {
		slices.Reverse(turned)
	}
	normal := normalByDefinition(turned)
	var list []int64
	for _, chord := range chords {
		list = append(list, normal[slices.Index(turned, chord)])
	}
	slices.Sort(list)
	return list
}

// TestTwistedCirclesDoNotChange rotates and reflects words together with their twisted chords.
func TestTwistedCirclesDoNotChange(t *testing.T) {
	for _, w := range wordsUpTo(4) {
		for _, twisted := range choicesOfChords(w) {
			want, _ := impl.CirclesOf(w, twisted)
			for k := range len(w) {
				other, others := rotatedByDefinition(w, k), moved(w, twisted, k, false)
				circles, code := impl.CirclesOf(other, others)
				wantValue(t, call("CirclesOf", letters(other), others)+" as of "+letters(w), circles, code, want)
			}
			other, others := reflectedByDefinition(w), moved(w, twisted, 0, true)
			circles, code := impl.CirclesOf(other, others)
			wantValue(t, call("CirclesOf", letters(other), others)+" as of "+letters(w), circles, code, want)
		}
	}
}

// wantNoFreeWeight checks that the free weight of a word is 0.
func wantNoFreeWeight(t *testing.T, w []int64) {
	t.Helper()
	weight, code := impl.FreeWeight(w)
	wantWord(t, call("FreeWeight", letters(w)), weight, code, nil)
	weight, code = impl.WeightOfKind(w, 2)
	wantWord(t, call("WeightOfKind", letters(w), 2), weight, code, nil)
}

func TestFreeWeightsOfWordsWithIsolatedChordsAreZero(t *testing.T) {
	var lonely [][]int64
	for _, w := range wordsUpTo(impl.MaxChords) {
		if slices.Contains(degreesByDefinition(w), 0) {
			wantNoFreeWeight(t, w)
			lonely = append(lonely, w)
		}
	}
	// One chord that crosses no other one is added to words of all kinds, at each place.
	for _, w := range everyOther(wordsOfSize(5), 17) {
		for place := range len(w) + 1 {
			wantNoFreeWeight(t, addedByDefinition(w, place, place))
		}
	}
	for number, p := range primes {
		x := mixed(p, lonely, 100, number)
		wantWord(t, call("WeightOfSum of words with isolated chords", p), mustWeighSum(t, x, 2), 0, nil)
	}
}

// TestFreeWeightsOfOtherWords shows that not all free weights are 0.
func TestFreeWeightsOfOtherWords(t *testing.T) {
	for text, want := range map[string][]int64{
		"": {1}, "abab": {1, 0, -1}, "abcabc": {0, -2, 0, 2}, "abacbc": {0, -1, 0, 1}, "ababcdcd": {1, 0, -2, 0, 1},
	} {
		weight, code := impl.FreeWeight(spelt(text))
		wantWord(t, call("FreeWeight", text), weight, code, want)
	}
}

func TestWeightsByDefinition(t *testing.T) {
	for _, w := range someWords(23) {
		for _, kind := range kinds {
			weight, code := impl.WeightOfKind(w, kind)
			wantWord(t, call("WeightOfKind", letters(w), kind), weight, code, weightByDefinition(w, kind))
			if !impl.IsPolynomial(weight) {
				t.Errorf("WeightOfKind(%s, %d) = %v is no polynomial", letters(w), kind, weight)
			}
		}
		gl, code := impl.GlWeight(w)
		wantWord(t, call("GlWeight", letters(w)), gl, code, weightByDefinition(w, 0))
		so, code := impl.SoWeight(w)
		wantWord(t, call("SoWeight", letters(w)), so, code, weightByDefinition(w, 1))
		free, code := impl.FreeWeight(w)
		wantWord(t, call("FreeWeight", letters(w)), free, code, weightByDefinition(w, 2))
		conway, code := impl.ConwayWeight(w)
		wantValue(t, call("ConwayWeight", letters(w)), conway, code, int64(len(weightByDefinition(w, 3))))
	}
}

// TestCirclesByDefinition holds circles against the closed lines, and against the ranks of crossing
// rows with 1 at the twisted chords, as many less than chords and one.
func TestCirclesByDefinition(t *testing.T) {
	for _, w := range someWords(101) {
		n := int64(len(w) / 2)
		for _, twisted := range choicesOfChords(w) {
			circles, code := impl.CirclesOf(w, twisted)
			what := call("CirclesOf", letters(w), twisted)
			wantValue(t, what, circles, code, linesByDefinition(w, twisted))
			wantValue(t, what+" and rank", circles+rankWithOnes(w, twisted), code, n+1)
		}
	}
}

// TestCirclesWithNoTwistsAndAllOfThem takes all words, and holds those without twists against the
// border circles of chapter 2.
func TestCirclesWithNoTwistsAndAllOfThem(t *testing.T) {
	for _, w := range wordsUpTo(impl.MaxChords) {
		border, _ := impl.BorderCircles(w)
		for _, none := range [][]int64{nil, {}} {
			circles, code := impl.CirclesOf(w, none)
			wantValue(t, call("CirclesOf", letters(w)), circles, code, border)
		}
		all := chordsBeside(w, nil)
		circles, code := impl.CirclesOf(w, all)
		wantValue(t, call("CirclesOf", letters(w), all), circles, code, linesByDefinition(w, all))
	}
}

func TestTwistNumbersAddUpToAllChoices(t *testing.T) {
	for _, w := range wordsUpTo(impl.MaxChords) {
		numbers, code := impl.TwistNumbers(w)
		if len(numbers) != len(w)/2+2 {
			t.Fatalf("TwistNumbers(%s) = %v, code %d", letters(w), numbers, code)
		}
		total := int64(0)
		for _, number := range numbers {
			total += number
		}
		wantValue(t, call("sum of TwistNumbers", letters(w)), total, code, 1<<(len(w)/2))
	}
	for _, w := range someWords(37) {
		want := make([]int64, len(w)/2+2)
		for _, twisted := range choicesOfChords(w) {
			want[linesByDefinition(w, twisted)]++
		}
		numbers, code := impl.TwistNumbers(w)
		wantWord(t, call("TwistNumbers", letters(w)), numbers, code, want)
	}
}

// TestGlWeightsOfJoinedWordsAreProductsDividedByN takes all pairs of words that can be joined.
func TestGlWeightsOfJoinedWordsAreProductsDividedByN(t *testing.T) {
	n := []int64{0, 1}
	for size := range impl.MaxChords + 1 {
		for _, b := range wordsOfSize(impl.MaxChords - size) {
			other := mustWeigh(t, b, 0)
			for _, a := range wordsUpTo(min(size, 3)) {
				joined, code := impl.JoinWords(a, b)
				wantWord(t, call("JoinWords", letters(a), letters(b)), joined, code, spelt(joinedByDefinition(letters(a), letters(b))))
				weight, code := impl.GlWeight(joined)
				wantWord(t, call("GlWeight", letters(joined)), weight, code, weightByDefinition(joined, 0))
				product, code := impl.MultiplyPolynomials(mustWeigh(t, a, 0), other)
				times, timesCode := impl.MultiplyPolynomials(weight, n)
				wantWord(t, call("product of the gl weights of", letters(a), letters(b), code), product, timesCode, times)
			}
		}
	}
	// The longer word comes first.
	for size := range 3 {
		for _, a := range everyOther(wordsOfSize(impl.MaxChords-size), 7) {
			for _, b := range wordsUpTo(size) {
				joined := spelt(joinedByDefinition(letters(a), letters(b)))
				product, code := impl.MultiplyPolynomials(mustWeigh(t, a, 0), mustWeigh(t, b, 0))
				times, _ := impl.MultiplyPolynomials(mustWeigh(t, joined, 0), n)
				wantWord(t, call("product of the gl weights of", letters(a), letters(b)), product, code, times)
			}
		}
	}
}

// TestWeightsAreZeroAtFourTermSums takes all kinds: each one is a weight system modulo each prime.
func TestWeightsAreZeroAtFourTermSums(t *testing.T) {
	for n := 1; n < impl.MaxChords; n++ {
		for number, four := range fourTermsOfSize(n) {
			// The longer the words, the fewer of them are taken.
			if n > 3 && number%(9*n*n*n) != 0 {
				continue
			}
			p := primes[number%len(primes)]
			sum, code := impl.FourTermSum(p, four.word, four.i, int64(four.x))
			wantSum(t, call("FourTermSum", p, letters(four.word), four.i, four.x), sum, code, sumByDefinition(p, four.sum))
			for _, kind := range kinds {
				weight, code := impl.WeightOfSum(sum, kind)
				wantWord(t, call("WeightOfSum", spelling(sum), kind), weight, code, nil)
			}
		}
	}
}

// TestWeightsOfReducedSums holds the weights of sums against those of reduced sums, and for the kinds
// that are 0 for words with isolated chords against those of freely reduced ones.
func TestWeightsOfReducedSums(t *testing.T) {
	for _, p := range primes {
		for _, x := range orderedSums(p) {
			reduced := mustReduce(t, x)
			free, code := impl.ReduceFreely(x)
			for _, kind := range kinds {
				want := mustWeighSum(t, x, kind)
				wantWord(t, call("WeightOfSum", spelling(reduced), kind), mustWeighSum(t, reduced, kind), code, want)
				if kind >= 2 {
					wantWord(t, call("WeightOfSum", spelling(free), kind), mustWeighSum(t, free, kind), code, want)
				}
			}
		}
	}
}

func TestWeightsOfSumsByDefinition(t *testing.T) {
	for _, p := range primes {
		for _, x := range append(mixedSums(p, impl.MaxChords), mixed(p, wordsOfSize(impl.MaxChords), 30, 2)) {
			for _, kind := range kinds {
				weight, code := impl.WeightOfSum(x, kind)
				wantWord(t, call("WeightOfSum", spelling(x), kind), weight, code, weightOfSumByDefinition(x, kind))
			}
		}
	}
	full := firstOf(13, wordsOfSize(impl.MaxChords), impl.MaxTerms)
	for _, kind := range kinds {
		weight, code := impl.WeightOfSum(full, kind)
		wantWord(t, call("WeightOfSum of 200 terms", kind), weight, code, weightOfSumByDefinition(full, kind))
	}
}

// TestWeightsOfOneWordAsSums takes each Value of each prime.
func TestWeightsOfOneWordAsSums(t *testing.T) {
	for _, p := range primes {
		for value := int64(1); value < p; value++ {
			for _, text := range []string{"", "aa", "abab", "aabb", "abcabc", "abcdacdb", "aabbccddee", "abcdefabcdef"} {
				x := one(p, text, value)
				for _, kind := range kinds {
					weight, code := impl.WeightOfSum(x, kind)
					wantWord(t, call("WeightOfSum", spelling(x), kind), weight, code, weightOfSumByDefinition(x, kind))
				}
			}
		}
	}
}

func TestWeightsThatBecomeZeroModuloThePrime(t *testing.T) {
	for _, p := range primes {
		none := impl.Sum{Prime: p}
		for _, x := range []impl.Sum{none, {Prime: p, Terms: []impl.Term{}}, {Prime: p, Terms: make([]impl.Term, 0, 9)}} {
			for _, kind := range kinds {
				weight, code := impl.WeightOfSum(x, kind)
				wantWord(t, call("WeightOfSum without Terms", p, kind), weight, code, nil)
			}
		}
		// Both words are the same on the circle.
		x := sumByDefinition(p, plain{"aabb": 1, "abba": p - 1})
		for _, kind := range kinds {
			wantWord(t, call("WeightOfSum", spelling(x), kind), mustWeighSum(t, x, kind), 0, nil)
		}
		// The number at the greatest power becomes 0, or one below it.
		top := sumByDefinition(p, plain{"aabb": 1, "abba": p - 1, "aa": p - 1, "abab": 1})
		wantWord(t, call("WeightOfSum", spelling(top), 0), mustWeighSum(t, top, 0), 0, []int64{0, 1, p - 1})
		middle := sumByDefinition(p, plain{"": p - 1, "aa": 1, "abab": 1})
		wantWord(t, call("WeightOfSum", spelling(middle), 0), mustWeighSum(t, middle, 0), 0, []int64{0, 0, 1})
		// As many equal weights as the prime tells.
		equal := plain{}
		for _, w := range wordsOfSize(4) {
			if conway, _ := impl.ConwayWeight(w); conway == 1 && len(equal) < int(p) {
				equal[letters(w)] = 1
			}
		}
		for _, kind := range []int64{0, 3} {
			wantWord(t, call("WeightOfSum of equal weights", p, kind), mustWeighSum(t, sumByDefinition(p, equal), kind), 0, nil)
		}
	}
	// The free weight of abcabc is 2 N^3 - 2 N.
	wantWord(t, "WeightOfSum of abcabc for 2", mustWeighSum(t, one(2, "abcabc", 1), 2), 0, nil)
}

// TestWeightsOfNoChords takes the empty word with nil and with an empty list that has room behind it.
func TestWeightsOfNoChords(t *testing.T) {
	for _, none := range [][]int64{nil, {}, make([]int64, 0, 12)} {
		circles, code := impl.CirclesOf(none, none)
		wantValue(t, "CirclesOf no chords", circles, code, 1)
		numbers, code := impl.TwistNumbers(none)
		wantWord(t, "TwistNumbers of no chords", numbers, code, []int64{0, 1})
		conway, code := impl.ConwayWeight(none)
		wantValue(t, "ConwayWeight of no chords", conway, code, 1)
		gl, code := impl.GlWeight(none)
		wantWord(t, "GlWeight of no chords", gl, code, []int64{0, 1})
		so, code := impl.SoWeight(none)
		wantWord(t, "SoWeight of no chords", so, code, []int64{0, 1})
		free, code := impl.FreeWeight(none)
		wantWord(t, "FreeWeight of no chords", free, code, []int64{1})
		for kind, want := range [][]int64{{0, 1}, {0, 1}, {1}, {1}} {
			weight, code := impl.WeightOfKind(none, int64(kind))
			wantWord(t, call("WeightOfKind of no chords", kind), weight, code, want)
			x := impl.Sum{Prime: 7, Terms: []impl.Term{{Word: none, Value: 1}}}
			wantWord(t, call("WeightOfSum of no chords", kind), mustWeighSum(t, x, int64(kind)), 0, want)
		}
	}
}

// TestWeightsOfTheLongestWords takes words of MaxChords chords whose weights are easily told: each
// chord that crosses no other one makes one circle more if it is not twisted, and each pair that
// crosses just itself makes one more if both are.
func TestWeightsOfTheLongestWords(t *testing.T) {
	apart, crossed := spelt("aabbccddeeff"), spelt("ababcdcdefef")
	gl, code := impl.GlWeight(apart)
	wantWord(t, "GlWeight of chords apart", gl, code, monomial(1, 7))
	so, code := impl.SoWeight(apart)
	wantWord(t, "SoWeight of chords apart", so, code, append([]int64{0}, binomial(6, -1, 1)...))
	numbers, code := impl.TwistNumbers(apart)
	wantWord(t, "TwistNumbers of chords apart", numbers, code, append([]int64{0}, binomial(6, 1, 1)...))
	gl, code = impl.GlWeight(crossed)
	wantWord(t, "GlWeight of crossed pairs", gl, code, []int64{0, 1})
	free, code := impl.FreeWeight(crossed)
	wantWord(t, "FreeWeight of crossed pairs", free, code, []int64{1, 0, -3, 0, 3, 0, -1})
	conway, code := impl.ConwayWeight(crossed)
	wantValue(t, "ConwayWeight of crossed pairs", conway, code, 1)
	conway, code = impl.ConwayWeight(apart)
	wantValue(t, "ConwayWeight of chords apart", conway, code, 0)
	for all, want := range map[string]int64{"aabbccddeeff": 1, "ababcdcdefef": 4, "abcdefabcdef": 6} {
		circles, code := impl.CirclesOf(spelt(all), []int64{0, 1, 2, 3, 4, 5})
		wantValue(t, call("CirclesOf all twisted", all), circles, code, want)
	}
}

func TestWeightExamples(t *testing.T) {
	for _, c := range []struct {
		text    string
		twisted []int64
		want    int64
	}{{"abab", nil, 1}, {"aa", nil, 2}, {"aa", []int64{0}, 1}, {"abab", []int64{0}, 1}, {"abab", []int64{1}, 1}, {"abab", []int64{0, 1}, 2}, {"aabb", []int64{1}, 2}, {"aabb", []int64{0, 1}, 1}} {
		circles, code := impl.CirclesOf(spelt(c.text), c.twisted)
		wantValue(t, call("CirclesOf", c.text, c.twisted), circles, code, c.want)
	}
	for text, want := range map[string][4][]int64{
		"aa":     {{0, 0, 1}, {0, -1, 1}, {}, {}},
		"aabb":   {{0, 0, 0, 1}, {0, 1, -2, 1}, {}, {}},
		"abab":   {{0, 1}, {0, -1, 1}, {1, 0, -1}, {1}},
		"abcabc": {{0, 0, 1}, {0, -3, 4, -1}, {0, -2, 0, 2}, {}},
	} {
		for kind, weight := range want {
			wantWord(t, call("WeightOfKind", text, kind), mustWeigh(t, spelt(text), int64(kind)), 0, weight)
		}
	}
	numbers, code := impl.TwistNumbers(spelt("abab"))
	wantWord(t, "TwistNumbers(abab)", numbers, code, []int64{0, 3, 1, 0})
	x := sumByDefinition(5, plain{"aa": 1, "abab": 1})
	for kind, want := range [][]int64{{0, 1, 1}, {0, 3, 2}, {1, 0, 4}, {1}} {
		wantWord(t, call("WeightOfSum", spelling(x), kind), mustWeighSum(t, x, int64(kind)), 0, want)
	}
}
