package tests

import (
	"math/big"
	"slices"
	"strings"
	"sync"
	"testing"

	"loop.example/g01303/impl"
)

// maxList is MaxList of chapter 8 as the document tells it, maxDivided is how many chords are divided
// at most, and maxCount is the greatest number of a list that is transformed.
const (
	maxList    = 20
	maxDivided = 4
	maxCount   = 1000
)

// divisionsInto lists the ordered divisions of n chords into k parts: each chord is told the number of
// its part, and no part is empty.
func divisionsInto(n, k int) [][][]int64 {
	var divisions [][][]int64
	for _, numbers := range listsOfResidues(int64(k), n) {
		parts := make([][]int64, k)
		for chord, number := range numbers {
			parts[number] = append(parts[number], int64(chord))
		}
		if !slices.ContainsFunc(parts, func(part []int64) bool { return len(part) == 0 }) {
			divisions = append(divisions, parts)
		}
	}
	return divisions
}

// dividedWords tells for each word of at most maxDivided chords the products of its ordered divisions
// into k parts.
var dividedWords = sync.OnceValue(func() map[string][maxDivided + 1][]string {
	products := map[string][maxDivided + 1][]string{}
	for n := range maxDivided + 1 {
		for _, w := range wordsOfSize(n) {
			var byParts [maxDivided + 1][]string
			for k := range byParts {
				for _, parts := range divisionsInto(n, k) {
					product := ""
					for _, part := range parts {
						product = joinedByDefinition(product, letters(keptByDefinition(w, part)))
					}
					byParts[k] = append(byParts[k], product)
				}
			}
			products[letters(w)] = byParts
		}
	}
	return products
})

// fraction returns the number in 0..p - 1 that times below is above modulo p.
func fraction(p, above, below int64) int64 {
	for x := range p {
		if residue(x*below-above, p) == 0 {
			return x
		}
	}
	panic("no fraction")
}

// antipodeByDefinition takes the products of all ordered divisions into k parts (-1)^k times.
func antipodeByDefinition(x plain) plain {
	antipode := plain{}
	for text, value := range x {
		for k, products := range dividedWords()[text] {
			for _, product := range products {
				antipode[product] += []int64{1, -1}[k%2] * value
			}
		}
	}
	return antipode
}

// primitiveByDefinition takes the products of all ordered divisions into k parts, k of at least 1,
// (-1)^(k - 1) / k times.
func primitiveByDefinition(p int64, x plain) plain {
	part := plain{}
	for text, value := range x {
		for k, products := range dividedWords()[text] {
			for _, product := range products {
				if k > 0 {
					part[product] += fraction(p, []int64{-1, 1}[k%2], int64(k)) * value
				}
			}
		}
	}
	return part
}

// cutProduct multiplies term by term modulo p, without the words of more than n chords.
func cutProduct(p int64, x, y plain, n int) plain {
	product := plain{}
	for a, value := range x {
		for b, other := range y {
			if joined := joinedByDefinition(a, b); len(joined) <= 2*n {
				product[joined] = residue(product[joined]+value*other, p)
			}
		}
	}
	return product
}

// seriesByDefinition returns the sum, over all k in 0..n, of x multiplied k times, times a factor.
func seriesByDefinition(p int64, x plain, n int, factor func(k int64) int64) impl.Sum {
	series, power := plain{}, plain{"": 1}
	for k := range n + 1 {
		for text, value := range power {
			series[text] += factor(int64(k)) * value
		}
		power = cutProduct(p, power, x, n)
	}
	return sumByDefinition(p, series)
}

// exponentialByDefinition divides x multiplied k times by k!.
func exponentialByDefinition(x impl.Sum, n int) impl.Sum {
	return seriesByDefinition(x.Prime, plainOf(x), n, func(k int64) int64 {
		return fraction(x.Prime, 1, []int64{1, 1, 2, 6, 24}[k])
	})
}

// logarithmByDefinition takes y multiplied k times (-1)^(k - 1) / k times, x being 1 + y.
func logarithmByDefinition(x impl.Sum, n int) impl.Sum {
	y := plainOf(x)
	delete(y, "")
	return seriesByDefinition(x.Prime, y, n, func(k int64) int64 {
		if k == 0 {
			return 0
		}
		return fraction(x.Prime, []int64{-1, 1}[k%2], k)
	})
}

// commutatorByDefinition takes the products of both orders from each other.
func commutatorByDefinition(x, y impl.Sum) plain {
	commutator := productByDefinition(x, y)
	for text, value := range productByDefinition(y, x) {
		commutator[text] -= value
	}
	return commutator
}

// convolutionByDefinition takes the antipode of the first word of each pair times the second one.
func convolutionByDefinition(x impl.Sum) plain {
	convolution := plain{}
	for pair, value := range coproductByDefinition(plainOf(x)) {
		for text, other := range antipodeByDefinition(plain{pair[0]: value}) {
			convolution[joinedByDefinition(text, pair[1])] += other
		}
	}
	return convolution
}

// isPrimitiveByDefinition looks for the empty word, and for a pair without an empty word.
func isPrimitiveByDefinition(x impl.Sum) bool {
	pairs := pairsByDefinition(x.Prime, coproductByDefinition(plainOf(x)))
	_, hasEmpty := plainOf(x)[""]
	return !hasEmpty && !slices.ContainsFunc(pairs, func(pair impl.Pair) bool {
		return len(pair.First) > 0 && len(pair.Second) > 0
	})
}

// isGroupLikeByDefinition compares the pairs of the coproduct with those of all pairs of Terms.
func isGroupLikeByDefinition(x impl.Sum, n int) bool {
	coproduct, products := plainPairs{}, plainPairs{}
	for pair, value := range coproductByDefinition(plainOf(x)) {
		if len(pair[0])+len(pair[1]) <= 2*n {
			coproduct[pair] = value
		}
	}
	for _, a := range x.Terms {
		for _, b := range x.Terms {
			if len(a.Word)+len(b.Word) <= 2*n {
				products[[2]string{letters(a.Word), letters(b.Word)}] = a.Value * b.Value
			}
		}
	}
	return equalPairs(pairsByDefinition(x.Prime, coproduct), pairsByDefinition(x.Prime, products))
}

// withEmpty returns a sum with another coefficient of the empty word.
func withEmpty(x impl.Sum, value int64) impl.Sum {
	coefficients := plainOf(x)
	coefficients[""] = value
	return sumByDefinition(x.Prime, coefficients)
}

// cutSum returns a sum without its words of more than n chords.
func cutSum(x impl.Sum, n int) impl.Sum {
	return sumByDefinition(x.Prime, cutProduct(x.Prime, plainOf(x), plain{"": 1}, n))
}

// smallSums lists all sums of words of at most 2 chords.
func smallSums(p int64) []impl.Sum {
	words := wordsUpTo(2)
	var sums []impl.Sum
	for _, values := range listsOfResidues(p, len(words)) {
		coefficients := plain{}
		for k, value := range values {
			coefficients[letters(words[k])] = value
		}
		sums = append(sums, sumByDefinition(p, coefficients))
	}
	return sums
}

// dividedSums lists sums of words of at most maxDivided chords: each word alone, sums of many kinds, and
// for the lesser primes all sums of words of at most 2 chords.
func dividedSums(p int64) []impl.Sum {
	sums := orderedSums(p)
	for number, w := range wordsUpTo(maxDivided) {
		sums = append(sums, one(p, letters(w), 1+int64(number)%(p-1)))
	}
	if p < 5 {
		sums = append(sums, smallSums(p)...)
	}
	return sums
}

// primitiveSums lists primitive sums of words of at most n chords, n of at most maxDivided, without the
// functions under test: primitive parts, sums of those, and a word of p chords none of which cross
// another, each behind the one before.
func primitiveSums(p int64, n int) []impl.Sum {
	sums := []impl.Sum{{Prime: p}}
	together := plain{}
	for number, w := range wordsUpTo(min(n, int(p)-1)) {
		part := sumByDefinition(p, primitiveByDefinition(p, plain{letters(w): 1 + int64(number)%(p-1)}))
		if len(part.Terms) == 0 {
			continue
		}
		sums = append(sums, part)
		for text, value := range plainOf(part) {
			together[text] += value * int64(1+number%3)
		}
		if number%4 == 1 {
			sums = append(sums, sumByDefinition(p, together))
		}
	}
	if int(p) <= n {
		sums = append(sums, one(p, powerText(int(p)), p-1))
	}
	return sums
}

// powerText is the text of aa multiplied n times.
func powerText(n int) string {
	var text strings.Builder
	for i := range n {
		text.WriteString(strings.Repeat(string(rune('a'+i)), 2))
	}
	return text.String()
}

// dividing returns the divisors of a number of at least 1.
func dividing(number int) []int {
	var divisors []int
	for d := 1; d <= number; d++ {
		if number%d == 0 {
			divisors = append(divisors, d)
		}
	}
	return divisors
}

// transformByDefinition reckons with numbers of any size, by logarithmic derivatives: i b(i) is the sum
// of c(j) b(i - j) over all j in 1..i, c(j) being the sum of d a(d) over all d that divide j.
func transformByDefinition(list []int64) wide {
	numbers := wideOf(len(list) + 1)
	numbers[0].SetInt64(1)
	for i := 1; i <= len(list); i++ {
		for j := 1; j <= i; j++ {
			c := int64(0)
			for _, d := range dividing(j) {
				c += int64(d) * list[d-1]
			}
			numbers[i].Add(numbers[i], new(big.Int).Mul(big.NewInt(c), numbers[i-j]))
		}
		numbers[i].Div(numbers[i], big.NewInt(int64(i)))
	}
	return numbers
}

// countsByDefinition goes the way of transformByDefinition back. It reports whether there is a list with
// numbers in 0..maxCount.
func countsByDefinition(list []int64) ([]int64, bool) {
	var counts []int64
	var c []*big.Int
	for i := 1; i < len(list); i++ {
		sum := new(big.Int).Mul(big.NewInt(int64(i)), big.NewInt(list[i]))
		for j := 1; j < i; j++ {
			sum.Sub(sum, new(big.Int).Mul(c[j-1], big.NewInt(list[i-j])))
		}
		c = append(c, new(big.Int).Set(sum))
		for _, d := range dividing(i)[:len(dividing(i))-1] {
			sum.Sub(sum, big.NewInt(int64(d)*counts[d-1]))
		}
		count, rest := sum.DivMod(sum, big.NewInt(int64(i)), new(big.Int))
		if rest.Sign() != 0 {
			panic("no whole number")
		}
		if count.Sign() < 0 || count.Cmp(big.NewInt(maxCount)) > 0 {
			return nil, false
		}
		counts = append(counts, count.Int64())
	}
	return counts, true
}

// wantTransform checks the transform of a list, and that it leads back, or that a number of it is too
// great.
func wantTransform(t *testing.T, list []int64) {
	t.Helper()
	var want []int64
	isBeyond := false
	for _, number := range transformByDefinition(list) {
		isBeyond = isBeyond || number.Cmp(big.NewInt(billion)) > 0
		want = append(want, number.Int64())
	}
	got, code := impl.TransformCounts(list)
	if isBeyond {
		wantCode(t, call("TransformCounts", list), listOutcome(got, code), impl.ErrLimit)
		return
	}
	wantWord(t, call("TransformCounts", list), got, code, want)
	back, code := impl.UntransformCounts(got)
	wantWord(t, call("UntransformCounts", got), back, code, list)
}

// wantUntransform checks the list whose transform is a list, and that it leads back, or that there is
// none. It returns whether there is one.
func wantUntransform(t *testing.T, list []int64) bool {
	t.Helper()
	want, isThere := countsByDefinition(list)
	got, code := impl.UntransformCounts(list)
	if !isThere {
		wantCode(t, call("UntransformCounts", list), listOutcome(got, code), impl.ErrState)
		return false
	}
	wantWord(t, call("UntransformCounts", list), got, code, want)
	back, code := impl.TransformCounts(got)
	wantWord(t, call("TransformCounts", got), back, code, list)
	return true
}

// wantPrimitive checks whether a sum is primitive.
func wantPrimitive(t *testing.T, what string, x impl.Sum, want bool) {
	t.Helper()
	isPrimitive, code := impl.IsPrimitive(x)
	wantValue(t, what+": IsPrimitive of "+spelling(x), isPrimitive, code, want)
}

// wantGroupLike checks whether a sum is group-like.
func wantGroupLike(t *testing.T, what string, x impl.Sum, n int64, want bool) {
	t.Helper()
	isGroupLike, code := impl.IsGroupLike(x, n)
	wantValue(t, what+": IsGroupLike of "+call(spelling(x), n), isGroupLike, code, want)
}

// mustDivide is AntipodeOf, or another function of one sum, where it cannot fail.
func mustDivide(t *testing.T, divide func(x impl.Sum) (impl.Sum, int64), x impl.Sum) impl.Sum {
	t.Helper()
	divided, code := divide(x)
	if code != impl.ErrNone {
		t.Fatalf("a function of %s: code %d", spelling(x), code)
	}
	return divided
}
