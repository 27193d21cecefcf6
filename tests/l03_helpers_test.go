package tests

import (
	"math"
	"slices"
	"strconv"
	"strings"
	"testing"

	"loop.example/g01303/impl"
)

// primes are the primes of chapter 3.
var primes = []int64{2, 3, 5, 7, 11, 13}

// notPrimes are numbers next to primes and far away from them, primes that are too great among them.
var notPrimes = []int64{math.MinInt64, -13, -3, -2, -1, 0, 1, 4, 6, 8, 9, 10, 12, 14, 15, 17, 19, 26, 1 << 32, math.MaxInt64}

// plain is a sum of whole numbers by the texts of words. The tests reckon with it, so that they owe
// nothing to the functions under test.
type plain map[string]int64

// plainPairs is a coproduct by the texts of both words of its pairs.
type plainPairs map[[2]string]int64

// residue returns the rest of a whole number by p, in 0..p - 1.
func residue(value, p int64) int64 { return (value%p + p) % p }

// compareTexts compares texts of words: shorter ones come first, and then the letters count.
func compareTexts(a, b string) int {
	if len(a) != len(b) {
		return len(a) - len(b)
	}
	return strings.Compare(a, b)
}

// sumByDefinition returns the sum with coefficients modulo p.
func sumByDefinition(p int64, coefficients plain) impl.Sum {
	var texts []string
	for text, value := range coefficients {
		if residue(value, p) != 0 {
			texts = append(texts, text)
		}
	}
	slices.SortFunc(texts, compareTexts)
	sum := impl.Sum{Prime: p}
	for _, text := range texts {
		sum.Terms = append(sum.Terms, impl.Term{Word: spelt(text), Value: residue(coefficients[text], p)})
	}
	return sum
}

// pairsByDefinition returns the pairs with coefficients modulo p.
func pairsByDefinition(p int64, coefficients plainPairs) []impl.Pair {
	var keys [][2]string
	for key, value := range coefficients {
		if residue(value, p) != 0 {
			keys = append(keys, key)
		}
	}
	slices.SortFunc(keys, func(a, b [2]string) int {
		if a[0] != b[0] {
			return compareTexts(a[0], b[0])
		}
		return compareTexts(a[1], b[1])
	})
	var pairs []impl.Pair
	for _, key := range keys {
		pairs = append(pairs, impl.Pair{First: spelt(key[0]), Second: spelt(key[1]), Value: residue(coefficients[key], p)})
	}
	return pairs
}

// one returns the sum with one word.
func one(p int64, text string, value int64) impl.Sum { return sumByDefinition(p, plain{text: value}) }

// plainOf returns the coefficients of a sum by texts.
func plainOf(x impl.Sum) plain {
	coefficients := plain{}
	for _, term := range x.Terms {
		coefficients[letters(term.Word)] += term.Value
	}
	return coefficients
}

// mixed returns a sum of some of the words, told by a seed.
func mixed(p int64, words [][]int64, size, seed int) impl.Sum {
	coefficients := plain{}
	for i := range size {
		coefficients[letters(words[(seed*7919+i*104729)%len(words)])] = int64(1 + (seed+5*i)%int(p-1+int64(i%2)))
	}
	return sumByDefinition(p, coefficients)
}

// firstOf returns the sum with the Value 1 at the first words of a list.
func firstOf(p int64, words [][]int64, count int) impl.Sum {
	coefficients := plain{}
	for _, w := range words[:count] {
		coefficients[letters(w)] = 1
	}
	return sumByDefinition(p, coefficients)
}

// mixedSums returns sums of many kinds for a prime: without Terms, with the empty word, with words
// of one size and of all sizes up to most.
func mixedSums(p int64, most int) []impl.Sum {
	words := wordsUpTo(most)
	sums := []impl.Sum{{Prime: p}, one(p, "", 1), one(p, "", p-1), one(p, "aa", p-1)}
	for size := range most + 1 {
		sums = append(sums, mixed(p, wordsOfSize(size), 4, size))
	}
	for seed := range 6 {
		sums = append(sums, mixed(p, words, 2+2*seed, seed))
	}
	return sums
}

// joinedByDefinition puts the letters of b behind those of a, moved by how many a has.
func joinedByDefinition(a, b string) string {
	joined := []byte(a)
	for _, letter := range []byte(b) {
		joined = append(joined, letter+byte(len(a)/2))
	}
	return string(joined)
}

// productByDefinition multiplies term by term.
func productByDefinition(x, y impl.Sum) plain {
	product := plain{}
	for a, value := range plainOf(x) {
		for b, other := range plainOf(y) {
			product[joinedByDefinition(a, b)] += value * other
		}
	}
	return product
}

// derivativeByDefinition leaves out each chord once.
func derivativeByDefinition(x plain) plain {
	derivative := plain{}
	for text, value := range x {
		w := spelt(text)
		for i := range int64(len(w) / 2) {
			left := slices.DeleteFunc(slices.Clone(w), func(chord int64) bool { return chord == i })
			derivative[letters(normalByDefinition(left))] += value
		}
	}
	return derivative
}

// coproductByDefinition divides the chords of each word in all ways.
func coproductByDefinition(x plain) plainPairs {
	coproduct := plainPairs{}
	for text, value := range x {
		w := spelt(text)
		for choice := range 1 << (len(w) / 2) {
			var sides [2][]int64
			for i := range int64(len(w) / 2) {
				sides[choice>>i&1] = append(sides[choice>>i&1], i)
			}
			coproduct[[2]string{letters(keptByDefinition(w, sides[1])), letters(keptByDefinition(w, sides[0]))}] += value
		}
	}
	return coproduct
}

// replacedByDefinition puts another word in the place of each one.
func replacedByDefinition(x impl.Sum, replaced func(w []int64) []int64) plain {
	image := plain{}
	for text, value := range plainOf(x) {
		image[letters(replaced(spelt(text)))] += value
	}
	return image
}

// textByDefinition spells a sum.
func textByDefinition(x impl.Sum) string {
	text := ""
	for _, term := range x.Terms {
		text += "+" + strconv.Itoa(int(term.Value)) + "*" + letters(term.Word)
	}
	if text == "" {
		return "0"
	}
	return text[1:]
}

// notSums are values that are no sums, of all the kinds that the definition excludes.
func notSums() []impl.Sum {
	sums := []impl.Sum{{}, firstOf(3, wordsOfSize(6), 201), firstOf(13, wordsOfSize(4), 105)}
	sums[2].Terms = append(sums[2].Terms, sums[2].Terms...)
	terms := func(texts ...string) []impl.Term {
		var list []impl.Term
		for _, text := range texts {
			list = append(list, impl.Term{Word: spelt(text), Value: 1})
		}
		return list
	}
	for _, p := range notPrimes {
		sums = append(sums, impl.Sum{Prime: p}, impl.Sum{Prime: p, Terms: terms("aa")})
	}
	for _, p := range primes {
		for _, value := range append([]int64{0, p, p + 1, -p, 1 - p}, oddNumbers...) {
			sums = append(sums,
				impl.Sum{Prime: p, Terms: []impl.Term{{Word: spelt("aa"), Value: value}}},
				impl.Sum{Prime: p, Terms: []impl.Term{{Value: 1}, {Word: spelt("abab"), Value: value}}},
				impl.Sum{Prime: p, Terms: []impl.Term{{Value: value}, {Word: spelt("abab"), Value: 1}}})
		}
		for _, list := range [][]impl.Term{
			terms("aa", "aa"), terms("", ""), terms("aa", ""), terms("abab", "aabb"), terms("abba", "aa"),
			// Fewer chords come first, though the letters say otherwise.
			terms("aabbcc", "abab"), terms("aabb", "aa"), terms("", "aa", "abab", "aabb"), terms("aa", "aabb", "aabb"),
			terms("aabb", "aa", "abab"), terms("abab", "abab", "abba"), terms("ab"), terms("aa", "baba"), terms("aabbccddeeffgg"),
		} {
			sums = append(sums, impl.Sum{Prime: p, Terms: list})
		}
	}
	for _, bad := range notWords() {
		sums = append(sums, impl.Sum{Prime: 5, Terms: []impl.Term{{Value: 1}, {Word: bad, Value: 1}}})
	}
	return append(sums, impl.Sum{Prime: 2, Terms: make([]impl.Term, 1<<20)})
}

func equalSums(x, y impl.Sum) bool {
	return x.Prime == y.Prime && slices.EqualFunc(x.Terms, y.Terms, func(a, b impl.Term) bool {
		return a.Value == b.Value && slices.Equal(a.Word, b.Word)
	})
}

func equalPairs(x, y []impl.Pair) bool {
	return slices.EqualFunc(x, y, func(a, b impl.Pair) bool {
		return a.Value == b.Value && slices.Equal(a.First, b.First) && slices.Equal(a.Second, b.Second)
	})
}

// wantSum checks a sum and the code beside it.
func wantSum(t *testing.T, what string, got impl.Sum, code int64, want impl.Sum) {
	t.Helper()
	if code != impl.ErrNone || !equalSums(got, want) {
		t.Errorf("%s = %s for %d, code %d; want %s for %d, code 0", what, textByDefinition(got), got.Prime, code,
			textByDefinition(want), want.Prime)
	}
}

// wantPairs checks the pairs of a coproduct and the code beside them.
func wantPairs(t *testing.T, what string, got []impl.Pair, code int64, want []impl.Pair) {
	t.Helper()
	if code != impl.ErrNone || !equalPairs(got, want) {
		t.Errorf("%s = %v, code %d; want %v, code 0", what, got, code, want)
	}
}

func sumOutcome(x impl.Sum, code int64) outcome {
	return outcome{code, x.Prime == 0 && len(x.Terms) == 0}
}

// spelling names a sum for messages.
func spelling(x impl.Sum) string { return textByDefinition(x) + " for " + strconv.Itoa(int(x.Prime)) }

// mustJoin and mustAdd are JoinSums and AddSums where they cannot fail.
func mustJoin(t *testing.T, x, y impl.Sum) impl.Sum {
	t.Helper()
	product, code := impl.JoinSums(x, y)
	if code != impl.ErrNone {
		t.Fatalf("JoinSums(%s, %s): code %d", spelling(x), spelling(y), code)
	}
	return product
}

func mustAdd(t *testing.T, x, y impl.Sum) impl.Sum {
	t.Helper()
	sum, code := impl.AddSums(x, y, 1)
	if code != impl.ErrNone {
		t.Fatalf("AddSums(%s, %s, 1): code %d", spelling(x), spelling(y), code)
	}
	return sum
}
