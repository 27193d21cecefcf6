package tests

import (
	"slices"
	"testing"

	"loop.example/g01303/impl"
)

// TestPivotsKeepInterlacePolynomials takes each two chords that cross, in both orders.
func TestPivotsKeepInterlacePolynomials(t *testing.T) {
	pivots := 0
	for _, w := range slices.Concat(wordsUpTo(5), everyOther(wordsOfSize(impl.MaxChords), 7), [][]int64{allCrossing(impl.MaxChords)}) {
		want := mustInterlace(t, w)
		for _, pair := range crossingPairs(w) {
			for _, ends := range [][2]int64{pair, {pair[1], pair[0]}} {
				pivot := mustPivot(t, w, ends[0], ends[1])
				got, code := impl.InterlacePolynomial(pivot)
				wantWord(t, call("InterlacePolynomial of the pivot", letters(w), ends), got, code, want)
				pivots++
			}
		}
	}
	if pivots < 10000 {
		t.Errorf("only %d pivots", pivots)
	}
}

// TestInterlacePolynomialsAt2 takes all words: the value, and that of the numbers.
func TestInterlacePolynomialsAt2(t *testing.T) {
	for _, w := range wordsUpTo(impl.MaxChords) {
		want := powerOf(2, int64(len(w)/2))
		value, code := impl.ValueOfInterlace(w, 2)
		wantValue(t, call("ValueOfInterlace", letters(w), 2), value, code, want)
		numbers := mustInterlace(t, w)
		wantValue(t, call("InterlacePolynomial", letters(w))+" at 2", valueOfNumbers(numbers, 2), impl.ErrNone, want)
	}
}

// TestLocalComplementsTwice leads back to the word, as the chord keeps its number.
func TestLocalComplementsTwice(t *testing.T) {
	for number, w := range wordsUpTo(impl.MaxChords) {
		for i := range int64(len(w) / 2) {
			once := mustComplement(t, w, i)
			twice := mustComplement(t, once, i)
			wantWord(t, call("LocalComplement twice", letters(w), i), twice, impl.ErrNone, w)
			// The least lists over all orders of many chords take their time.
			if len(w) <= 8 || number%97 == 0 {
				wantAlikeGraphs(t, w, twice, true)
			}
		}
	}
}

func TestLocalComplementsByDefinition(t *testing.T) {
	for _, w := range wordsUpTo(impl.MaxChords) {
		for i := range int64(len(w) / 2) {
			got, code := impl.LocalComplement(w, i)
			wantWord(t, call("LocalComplement", letters(w), i), got, code, normalByDefinition(complementedByDefinition(w, i)))
		}
	}
}

// TestLocalComplementsTurnCrossings takes the chords with their new numbers: two that cross the chord of the
// complement cross each other exactly if they did not, and all others as they did.
func TestLocalComplementsTurnCrossings(t *testing.T) {
	for _, w := range slices.Concat(wordsUpTo(5), everyOther(wordsOfSize(impl.MaxChords), 11)) {
		before := crossTable(w)
		for i := range before {
			kept := complementedByDefinition(w, int64(i))
			after := crossTable(mustComplement(t, w, int64(i)))
			for a := range before {
				for b := range a {
					want := before[a][b] != (before[i][a] && before[i][b])
					if after[numberIn(kept, int64(a))][numberIn(kept, int64(b))] != want {
						t.Fatalf("LocalComplement(%s, %d): chords %d and %d cross, or do not, wrongly", letters(w), i, a, b)
					}
				}
			}
		}
	}
}

func TestPivotsByDefinition(t *testing.T) {
	for _, w := range wordsUpTo(impl.MaxChords) {
		for _, pair := range crossingPairs(w) {
			want := normalByDefinition(pivotedByDefinition(w, pair[0], pair[1]))
			got, code := impl.PivotWord(w, pair[0], pair[1])
			wantWord(t, call("PivotWord", letters(w), pair), got, code, want)
			got, code = impl.PivotWord(w, pair[1], pair[0])
			wantWord(t, call("PivotWord the other way round", letters(w), pair), got, code, want)
		}
	}
}

// TestPivotsTwice leads back to the word: the first chord keeps its number, the second one may have another.
func TestPivotsTwice(t *testing.T) {
	for _, w := range wordsUpTo(impl.MaxChords) {
		for _, pair := range crossingPairs(w) {
			once := mustPivot(t, w, pair[0], pair[1])
			second := numberIn(pivotedByDefinition(w, pair[0], pair[1]), pair[1])
			back, code := impl.PivotWord(once, pair[0], second)
			wantWord(t, call("PivotWord twice", letters(w), pair), back, code, w)
		}
	}
}

// TestPivotsAreThreeLocalComplements takes the first chord, the second one, and the first one again.
func TestPivotsAreThreeLocalComplements(t *testing.T) {
	for _, w := range wordsUpTo(impl.MaxChords) {
		for _, pair := range crossingPairs(w) {
			second := numberIn(complementedByDefinition(w, pair[0]), pair[1])
			complements := mustComplement(t, mustComplement(t, mustComplement(t, w, pair[0]), second), pair[0])
			wantWord(t, call("PivotWord", letters(w), pair), mustPivot(t, w, pair[0], pair[1]), impl.ErrNone, complements)
		}
	}
}

func TestSomeLocalComplementsAndPivots(t *testing.T) {
	for _, example := range []struct {
		word string
		i    int64
		want string
	}{
		{"aa", 0, "aa"}, {"aabb", 0, "aabb"}, {"aabb", 1, "aabb"}, {"abab", 0, "abab"}, {"abab", 1, "abab"}, {"abba", 0, "abba"},
		{"abcabc", 0, "abcacb"}, {"abcabc", 1, "abacbc"}, {"abcabc", 2, "abcbac"}, {"abcacb", 0, "abcabc"}, {"abbcca", 0, "abbcca"},
		{"abcbca", 0, "abcbca"}, {"abcbdcda", 0, "abcbdcda"}, {"abcdcdab", 1, "abacdcdb"}, {"aabccb", 1, "aabccb"},
		{"abcdbadc", 0, "abcdbacd"}, {"abcdefabcdef", 0, "abcdefafedcb"}, {"abcdefabcdef", 5, "abcdefedcbaf"},
	} {
		w := spelt(example.word)
		got, code := impl.LocalComplement(w, example.i)
		wantWord(t, call("LocalComplement", example.word, example.i), got, code, spelt(example.want))
	}
	for _, example := range []struct {
		word string
		i, k int64
		want string
	}{
		{"abab", 0, 1, "abab"}, {"abcabc", 0, 1, "abcabc"}, {"abcabc", 0, 2, "abcabc"}, {"abcabc", 1, 2, "abcabc"},
		{"abcacb", 0, 1, "abcbac"}, {"abacbc", 0, 1, "abcacb"}, {"abacbc", 1, 2, "abcbac"}, {"aabcbc", 1, 2, "aabcbc"},
		{"abcbac", 0, 2, "abcacb"}, {"abcbac", 1, 2, "abacbc"}, {"abbcac", 0, 2, "abaccb"},
	} {
		w := spelt(example.word)
		got, code := impl.PivotWord(w, example.i, example.k)
		wantWord(t, call("PivotWord", example.word, example.i, example.k), got, code, spelt(example.want))
	}
}

func TestInterlacePolynomialsByDefinition(t *testing.T) {
	for _, w := range slices.Concat(wordsUpTo(5), everyOther(wordsOfSize(impl.MaxChords), 5), circleWords(impl.MaxChords)) {
		got, code := impl.InterlacePolynomial(w)
		wantWord(t, call("InterlacePolynomial", letters(w)), got, code, interlaceByDefinition(w))
	}
}

// TestInterlacePolynomialsBySmallerWords takes two chords that cross: the polynomial is that of the word
// without the first chord, and that of the pivot without it, together.
func TestInterlacePolynomialsBySmallerWords(t *testing.T) {
	for _, w := range slices.Concat(wordsUpTo(5), everyOther(wordsOfSize(impl.MaxChords), 17)) {
		for _, pair := range crossingPairs(w) {
			for _, i := range pair {
				without, _ := impl.DeleteChord(w, i)
				pivoted := pivotedByDefinition(w, pair[0], pair[1])
				other, _ := impl.DeleteChord(mustPivot(t, w, pair[0], pair[1]), numberIn(pivoted, i))
				sum := mustInterlace(t, without)
				for power, number := range mustInterlace(t, other) {
					sum[power] += number
				}
				wantWord(t, call("InterlacePolynomial", letters(w)), mustInterlace(t, w), impl.ErrNone, append(sum, 0))
			}
		}
	}
}

// TestValuesOfInterlaceByDefinition takes each x for short words, and the greatest, the least and some
// between for the others.
func TestValuesOfInterlaceByDefinition(t *testing.T) {
	var all []int64
	for x := int64(-maxInterlaced); x <= maxInterlaced; x++ {
		all = append(all, x)
	}
	some := []int64{-100, -99, -37, -2, -1, 0, 1, 2, 3, 50, 99, 100}
	for _, w := range slices.Concat(wordsUpTo(5), everyOther(wordsOfSize(impl.MaxChords), 13), [][]int64{allCrossing(6), pairOff(6)}) {
		nullities := nullitiesByDefinition(w)
		xs := some
		if len(w) <= 6 || len(w) == 12 && slices.Equal(w, pairOff(6)) {
			xs = all
		}
		for _, x := range xs {
			want := int64(0)
			for _, nullity := range nullities {
				want += powerOf(x-1, nullity)
			}
			value, code := impl.ValueOfInterlace(w, x)
			wantValue(t, call("ValueOfInterlace", letters(w), x), value, code, want)
		}
	}
}

// TestGraphsOfJoinedWords have no crossings between both words: polynomials and numbers are products, but
// for cliques, which are in one of them.
func TestGraphsOfJoinedWords(t *testing.T) {
	words := slices.Concat(wordsUpTo(3), everyOther(wordsOfSize(4), 11), everyOther(wordsOfSize(5), 97))
	for _, a := range words {
		for _, b := range words {
			if len(a)+len(b) > 2*impl.MaxChords {
				continue
			}
			joined, _ := impl.JoinWords(a, b)
			products := map[string]func(w []int64) ([]int64, int64){
				"InterlacePolynomial": impl.InterlacePolynomial, "IndependentNumbers": impl.IndependentNumbers, "ColouringPolynomial": impl.ColouringPolynomial,
			}
			for name, get := range products {
				first, _ := get(a)
				second, _ := get(b)
				got, code := get(joined)
				wantWord(t, call(name, letters(joined)), got, code, productOfNumbers(first, second))
			}
			first, _ := impl.CliqueNumbers(a)
			second, _ := impl.CliqueNumbers(b)
			together := make([]int64, len(joined)/2+1)
			for size := range together {
				for _, numbers := range [][]int64{first, second} {
					if size < len(numbers) {
						together[size] += numbers[size]
					}
				}
			}
			together[0]--
			got, code := impl.CliqueNumbers(joined)
			wantWord(t, call("CliqueNumbers", letters(joined)), got, code, together)
		}
	}
}

func TestAlikeGraphsByDefinition(t *testing.T) {
	for _, words := range [][][]int64{
		wordsUpTo(3), wordsOfSize(4), everyOther(wordsOfSize(5), 15), everyOther(wordsOfSize(impl.MaxChords), 347), everyOther(wordsUpTo(impl.MaxChords), 409),
	} {
		for i, v := range words {
			for _, w := range words[:i+1] {
				wantAlikeGraphs(t, v, w, areAlikeByDefinition(v, w))
			}
		}
	}
}

// TestRotatedAndReflectedGraphs are isomorphic, and so are those of mutants.
func TestRotatedAndReflectedGraphs(t *testing.T) {
	for _, w := range slices.Concat(wordsUpTo(4), everyOther(wordsOfSize(5), 17), everyOther(wordsOfSize(impl.MaxChords), 301)) {
		for k := range w {
			wantAlikeGraphs(t, w, rotatedByDefinition(w, k), true)
		}
		wantAlikeGraphs(t, w, reflectedByDefinition(w), true)
		for at, a := range everyOther(sharesByDefinition(w), 3) {
			wantAlikeGraphs(t, w, mutantByDefinition(w, a, int64(at%3)), true)
		}
	}
}

// TestGraphsOfDifferentSizes are not isomorphic, though one is a part of the other.
func TestGraphsOfDifferentSizes(t *testing.T) {
	for a := range impl.MaxChords + 1 {
		for b := range a {
			wantAlikeGraphs(t, pairOff(a), pairOff(b), false)
			wantAlikeGraphs(t, allCrossing(a), allCrossing(b), false)
			wantAlikeGraphs(t, allCrossing(a), pairOff(b), false)
			wantAlikeGraphs(t, pairOff(a), allCrossing(b), false)
		}
	}
}

// TestAlikeGraphsOfOtherCircles takes words that are not the same on the circle.
func TestAlikeGraphsOfOtherCircles(t *testing.T) {
	for _, pair := range [][2]string{
		{"aabbcc", "aabccb"}, {"aabbcdcd", "aabcbddc"}, {"aabbcdcd", "aabcddbc"}, {"aabcbdcd", "aabcdbdc"}, {"aabcbdcd", "aabcdcbd"},
		{"aabbccddeeff", "aabbccddeffe"}, {"aabbcdecdeff", "aabcdecdeffb"},
	} {
		v, w := spelt(pair[0]), spelt(pair[1])
		if slices.Equal(leastByDefinition(v), leastByDefinition(w)) {
			t.Fatalf("the words %s and %s are the same on the circle", pair[0], pair[1])
		}
		wantAlikeGraphs(t, v, w, true)
	}
}

// TestGraphsThatAreNotAlike takes words of equally many chords and crossings; those of 5 and 6 chords have
// the same degrees as well.
func TestGraphsThatAreNotAlike(t *testing.T) {
	for _, pair := range [][2]string{
		{"aabcdbcd", "abacbdcd"}, {"aabcdbcd", "abcdadcb"}, {"abacbdcd", "abcdadcb"}, {"abacbdcede", "ababcdecde"},
		{"abacdbedce", "abacbdecde"}, {"abcadecbed", "abcadbedce"}, {"abcadcedfebf", "abcabcdefdef"},
	} {
		v, w := spelt(pair[0]), spelt(pair[1])
		first, second := degreesByDefinition(v), degreesByDefinition(w)
		slices.Sort(first)
		slices.Sort(second)
		if len(crossingPairs(v)) != len(crossingPairs(w)) || len(v) > 8 && !slices.Equal(first, second) {
			t.Fatalf("the words %s and %s have degrees that tell them apart", pair[0], pair[1])
		}
		wantAlikeGraphs(t, v, w, false)
	}
}
