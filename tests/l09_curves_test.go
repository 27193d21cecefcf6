package tests

import (
	"math/big"
	"slices"
	"testing"

	"loop.example/g01303/impl"
)

// TestWordsWithoutCrossings takes all words, and counts those without crossings: the numbers of Catalan.
func TestWordsWithoutCrossings(t *testing.T) {
	for n, want := range []int{1, 1, 2, 5, 14, 42, 132} {
		count := 0
		for _, w := range wordsOfSize(n) {
			isWithout, code := impl.IsWithoutCrossings(w)
			wantValue(t, call("IsWithoutCrossings", letters(w)), isWithout, code, hasNoCrossingsByDefinition(w))
			if isWithout {
				count++
			}
		}
		if count != want {
			t.Errorf("%d words of %d chords without crossings; want %d", count, n, want)
		}
	}
}

// TestCurvesByDefinition takes each two words of at most 4 chords, and some longer ones, in both orders.
func TestCurvesByDefinition(t *testing.T) {
	for _, words := range [][][]int64{
		wordsOfSize(0), wordsOfSize(1), wordsOfSize(2), wordsOfSize(3), wordsOfSize(4), everyOther(wordsOfSize(5), 8),
		everyOther(wordsOfSize(impl.MaxChords), 101), planarWords(5), planarWords(impl.MaxChords),
	} {
		for i, a := range words {
			for _, b := range words[:i+1] {
				wantCurves(t, a, b, curvesByDefinition(a, b), isMeanderByDefinition(a, b))
			}
		}
	}
}

// TestCurvesOfAWordWithItself has a curve for each chord, which is a meander for one chord alone.
func TestCurvesOfAWordWithItself(t *testing.T) {
	for _, w := range wordsUpTo(impl.MaxChords) {
		wantCurves(t, w, slices.Clone(w), int64(len(w)/2), len(w) == 2)
		// The list below the line may be the very one above it.
		wantCurves(t, w, w, int64(len(w)/2), len(w) == 2)
	}
}

func TestSomeCurves(t *testing.T) {
	for _, example := range []struct {
		a, b      string
		curves    int64
		isMeander bool
	}{
		{"", "", 0, false}, {"aa", "aa", 1, true}, {"aabb", "abba", 1, true}, {"aabb", "aabb", 2, false}, {"abab", "abba", 1, false},
		{"abab", "aabb", 1, false}, {"aabbcc", "abbcca", 1, true}, {"aabbcc", "abccba", 2, false}, {"aabbcc", "abacbc", 1, false},
		{"abbcca", "abcabc", 1, false}, {"aabbccddeeff", "abbccddeeffa", 1, true}, {"abcdefabcdef", "aabbccddeeff", 3, false},
		{"abcdeabcde", "aabbccddee", 1, false}, {"abcdeffedcba", "abbccddeeffa", 4, false}, {"abcdefabcdef", "abcdeffedcba", 3, false},
	} {
		a, b := spelt(example.a), spelt(example.b)
		if curvesByDefinition(a, b) != example.curves || isMeanderByDefinition(a, b) != example.isMeander {
			t.Fatalf("the example %s, %s is wrong: %d", example.a, example.b, curvesByDefinition(a, b))
		}
		wantCurves(t, a, b, example.curves, example.isMeander)
	}
}

// TestMeanders counts the pairs that are meanders as well.
func TestMeanders(t *testing.T) {
	for n, want := range []int64{0, 1, 2, 8, 42, 262, 1828} {
		count, code := impl.CountMeanders(int64(n))
		wantValue(t, call("CountMeanders", n), count, code, want)
		pairs := int64(0)
		words := planarWords(n)
		for _, a := range words {
			for _, b := range words {
				if curvesByDefinition(a, b) == 1 {
					pairs++
				}
			}
		}
		wantValue(t, call("CountMeanders by pairs", n), count, code, pairs)
	}
}

// oddProduct returns 1 * 3 * .. * (2 n - 1), the number of all words of n chords.
func oddProduct(n int64) int64 {
	product := int64(1)
	for k := range n {
		product *= 2*k + 1
	}
	return product
}

func TestPolygonNumbersAddUpToAllWords(t *testing.T) {
	for n := range int64(maxPolygon + 1) {
		numbers, code := impl.PolygonNumbers(n)
		sum := int64(0)
		for _, number := range numbers {
			sum += number
		}
		wantValue(t, call("PolygonNumbers", n)+" together", sum, code, oddProduct(n))
		if words, code := impl.CountWords(n); n <= impl.MaxChords {
			wantValue(t, call("PolygonNumbers", n)+" and words", sum, code, words)
		}
	}
}

// TestPolygonNumbersCountWords counts the words of each genus.
func TestPolygonNumbersCountWords(t *testing.T) {
	for n := range int64(impl.MaxChords + 1) {
		want := make([]int64, n/2+1)
		for _, w := range wordsOfSize(int(n)) {
			genus, code := impl.GenusOf(w)
			wantValue(t, call("GenusOf", letters(w)), genus, code, (n+1-circlesByDefinition(w))/2)
			want[genus]++
		}
		numbers, code := impl.PolygonNumbers(n)
		wantWord(t, call("PolygonNumbers", n), numbers, code, want)
	}
}

// polygonByRule returns e(n, g) as the document tells it, and fails if a division leaves a rest.
func polygonByRule(t *testing.T, n, g int64) *big.Int {
	sum := new(big.Int)
	if n == 0 || g < 0 {
		if n == 0 && g == 0 {
			sum.SetInt64(1)
		}
		return sum
	}
	sum.Mul(big.NewInt(2*(2*n-1)), polygonByRule(t, n-1, g))
	if n >= 2 && g >= 1 {
		second := new(big.Int).Mul(big.NewInt((2*n-1)*(n-1)*(2*n-3)), polygonByRule(t, n-2, g-1))
		sum.Add(sum, second)
	}
	quotient, rest := new(big.Int).QuoRem(sum, big.NewInt(n+1), new(big.Int))
	if rest.Sign() != 0 {
		t.Fatalf("e(%d, %d) is no whole number", n, g)
	}
	return quotient
}

func TestPolygonNumbersByRule(t *testing.T) {
	for n := range int64(maxPolygon + 1) {
		var want []int64
		for g := range n/2 + 1 {
			want = append(want, polygonByRule(t, n, g).Int64())
		}
		numbers, code := impl.PolygonNumbers(n)
		wantWord(t, call("PolygonNumbers", n), numbers, code, want)
		// There are none beyond the list.
		for g := n/2 + 1; g <= n; g++ {
			if polygonByRule(t, n, g).Sign() != 0 {
				t.Errorf("e(%d, %d) is not 0", n, g)
			}
		}
	}
}

func TestSomePolygonNumbers(t *testing.T) {
	for n, want := range [][]int64{{1}, {1}, {2, 1}, {5, 10}, {14, 70, 21}, {42, 420, 483}, {132, 2310, 6468, 1485}} {
		numbers, code := impl.PolygonNumbers(int64(n))
		wantWord(t, call("PolygonNumbers", n), numbers, code, want)
	}
}

// TestPolygonNumbersOfExtremes has the numbers of Catalan, (2 n)! / (n! (n + 1)!), for the genus 0, and
// (2 n)! / (2^n (n + 1)!) for the genus n / 2.
func TestPolygonNumbersOfExtremes(t *testing.T) {
	for n := range int64(maxPolygon + 1) {
		numbers, code := impl.PolygonNumbers(n)
		product := new(big.Int).MulRange(n+2, 2*n)
		factorial := new(big.Int).MulRange(1, n)
		wantValue(t, call("PolygonNumbers of the genus 0", n), numbers[0], code, new(big.Int).Div(product, factorial).Int64())
		if n%2 == 0 {
			wantValue(t, call("PolygonNumbers of the genus n / 2", n), numbers[n/2], code, product.Rsh(product, uint(n)).Int64())
		}
	}
}

// TestPolygonNumbersByColours colours the corners of glued polygons by N colours: added up over all
// words there are (2 n - 1)!! times the sum, over all k, of 2^k (n over k) (N over k + 1).
func TestPolygonNumbersByColours(t *testing.T) {
	for n := range int64(maxPolygon + 1) {
		numbers, code := impl.PolygonNumbers(n)
		for colours := int64(1); colours <= 14; colours++ {
			sum, want := new(big.Int), new(big.Int)
			for g, number := range numbers {
				corners := n + 1 - 2*int64(g)
				power := new(big.Int).Exp(big.NewInt(colours), big.NewInt(corners), nil)
				sum.Add(sum, power.Mul(power, big.NewInt(number)))
			}
			for k := range n + 1 {
				product := new(big.Int).Mul(new(big.Int).Binomial(n, k), new(big.Int).Binomial(colours, k+1))
				want.Add(want, product.Lsh(product, uint(k)))
			}
			want.Mul(want, big.NewInt(oddProduct(n)))
			wantValue(t, call("PolygonNumbers with colours", n, colours), sum.String(), code, want.String())
		}
	}
}

func TestCrossingDegreesByDefinition(t *testing.T) {
	for _, w := range wordsUpTo(impl.MaxChords) {
		degrees, code := impl.CrossingDegrees(w)
		wantWord(t, call("CrossingDegrees", letters(w)), degrees, code, degreesByDefinition(w))
		others, code := impl.DegreesOf(w)
		wantWord(t, call("DegreesOf", letters(w)), degrees, code, others)
	}
}

func TestLongestChainsByDefinition(t *testing.T) {
	for n := range int64(impl.MaxChords + 1) {
		lists := listsOfDifferent(n)
		for _, w := range wordsOfSize(int(n)) {
			chain, code := impl.LongestChain(w)
			wantWord(t, call("LongestChain", letters(w)), chain, code, longestChainByDefinition(w, lists))
		}
	}
}

// TestSomeLongestChains takes chains without chords, of one chord, of all chords, and equally long ones.
func TestSomeLongestChains(t *testing.T) {
	for text, want := range map[string][]int64{
		"": nil, "aa": {0}, "aabb": {0}, "abba": {0}, "aabbccddeeff": {0}, "abcdeffedcba": {0}, "abab": {0, 1}, "abcabc": {0, 1},
		"abcdefabcdef": {0, 1}, "aabcbc": {1, 2}, "abcacb": {1, 0, 2}, "abacbc": {0, 1, 2}, "abacbdcedfef": {0, 1, 2, 3, 4, 5},
		"ababcdcd": {0, 1}, "abacbddc": {0, 1, 2}, "aabcbdcd": {1, 2, 3}, "abcbadcd": {0, 2, 1}, "abcdebcdea": {1, 2},
		"abcadbdc": {0, 1, 3}, "abcacdbefdfe": {2, 0, 1, 3, 4},
		// In rings of chords, a chain stops ahead of the one that would cross the first one again.
		"abcdbadc": {0, 2, 1}, "abcadcedbe": {0, 1, 4, 3}, "abcadcedfebf": {0, 1, 5, 4, 3},
	} {
		chain, code := impl.LongestChain(spelt(text))
		wantWord(t, call("LongestChain", text), chain, code, want)
	}
}

// TestChainsOfRotatedWordsAreAsLong rotates words, which changes the numbers of chords alone.
func TestChainsOfRotatedWordsAreAsLong(t *testing.T) {
	for _, w := range everyOther(wordsUpTo(impl.MaxChords), 7) {
		chain, _ := impl.LongestChain(w)
		for k := range len(w) {
			other, code := impl.LongestChain(rotatedByDefinition(w, k))
			wantValue(t, call("LongestChain", letters(w), "rotated", k), len(other), code, len(chain))
		}
	}
}
