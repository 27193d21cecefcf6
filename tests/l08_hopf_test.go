package tests

import (
	"slices"
	"testing"

	"loop.example/g01303/impl"
)

// TestConvolutionsHaveTheEmptyWordAlone also takes the convolution apart, into coproducts, antipodes and
// products of the program.
func TestConvolutionsHaveTheEmptyWordAlone(t *testing.T) {
	for _, p := range primes {
		for _, x := range dividedSums(p) {
			want := one(p, "", plainOf(x)[""])
			convolution, code := impl.ConvolveAntipode(x)
			wantSum(t, call("ConvolveAntipode", spelling(x)), convolution, code, want)
			pairs, code := impl.CoproductOf(x)
			if code != impl.ErrNone {
				t.Fatalf("CoproductOf(%s): code %d", spelling(x), code)
			}
			total := impl.Sum{Prime: p}
			for _, pair := range pairs {
				antipode := mustDivide(t, impl.AntipodeOf, one(p, letters(pair.First), 1))
				total = mustAdd(t, total, mustJoin(t, antipode, one(p, letters(pair.Second), pair.Value)))
			}
			wantSum(t, "the convolution of "+spelling(x), total, code, want)
		}
	}
	for _, p := range primes {
		for _, x := range everyOther(dividedSums(p), 10) {
			wantSum(t, "by definition", sumByDefinition(p, convolutionByDefinition(x)), 0, one(p, "", plainOf(x)[""]))
		}
	}
}

func TestConvolutionsOfTheEmptyWord(t *testing.T) {
	for _, p := range primes {
		for value := int64(1); value < p; value++ {
			for _, x := range []impl.Sum{one(p, "", value), sumByDefinition(p, plain{"": value, "aa": 1, "abcdabcd": p - 1})} {
				convolution, code := impl.ConvolveAntipode(x)
				wantSum(t, call("ConvolveAntipode", spelling(x)), convolution, code, one(p, "", value))
			}
			antipode, code := impl.AntipodeOf(one(p, "", value))
			wantSum(t, "AntipodeOf the empty word", antipode, code, one(p, "", value))
			part, code := impl.PrimitivePart(one(p, "", value))
			wantSum(t, "PrimitivePart of the empty word", part, code, impl.Sum{Prime: p})
			wantPrimitive(t, "the empty word", one(p, "", value), false)
			for n := range int64(maxDivided + 1) {
				wantGroupLike(t, "the empty word", one(p, "", value), n, value == 1)
			}
		}
	}
}

func TestAntipodesByDefinition(t *testing.T) {
	for _, p := range primes {
		for _, x := range dividedSums(p) {
			antipode, code := impl.AntipodeOf(x)
			wantSum(t, call("AntipodeOf", spelling(x)), antipode, code, sumByDefinition(p, antipodeByDefinition(plainOf(x))))
			// As coproducts do not change if both sides are exchanged, antipodes lead back.
			wantSum(t, "AntipodeOf twice", mustDivide(t, impl.AntipodeOf, antipode), code, x)
		}
	}
}

// TestAntipodesOfProducts takes the products of antipodes in the other order.
func TestAntipodesOfProducts(t *testing.T) {
	for _, p := range primes {
		sums := mixedSums(p, 2)
		for _, x := range sums {
			for _, y := range sums {
				got := mustDivide(t, impl.AntipodeOf, mustJoin(t, x, y))
				want := mustJoin(t, mustDivide(t, impl.AntipodeOf, y), mustDivide(t, impl.AntipodeOf, x))
				wantSum(t, call("AntipodeOf the product", spelling(x), spelling(y)), got, 0, want)
			}
		}
	}
}

// primitiveFor are the sums of dividedSums that have words of fewer chords than p.
func primitiveFor(p int64) []impl.Sum {
	return slices.DeleteFunc(dividedSums(p), func(x impl.Sum) bool {
		return slices.ContainsFunc(x.Terms, func(term impl.Term) bool { return int64(len(term.Word)/2) >= p })
	})
}

func TestPrimitivePartsArePrimitive(t *testing.T) {
	for _, p := range primes {
		for _, x := range primitiveFor(p) {
			part, code := impl.PrimitivePart(x)
			wantSum(t, call("PrimitivePart", spelling(x)), part, code, sumByDefinition(p, primitiveByDefinition(p, plainOf(x))))
			wantPrimitive(t, call("PrimitivePart", spelling(x)), part, true)
			wantValue(t, "by definition", isPrimitiveByDefinition(part), code, true)
			wantSum(t, "PrimitivePart of a primitive sum", mustDivide(t, impl.PrimitivePart, part), code, part)
		}
		if count := len(primitiveFor(p)); count < 10 {
			t.Errorf("%d sums for %d", count, p)
		}
	}
}

// TestPrimesJustGreaterThanChords takes the least prime for each number of chords.
func TestPrimesJustGreaterThanChords(t *testing.T) {
	for n, p := range []int64{2, 2, 3, 5, 5} {
		for _, w := range wordsOfSize(n) {
			for _, x := range []impl.Sum{one(p, letters(w), p-1), withEmpty(one(p, letters(w), 1), p-1)} {
				part, code := impl.PrimitivePart(x)
				wantSum(t, call("PrimitivePart", spelling(x)), part, code, sumByDefinition(p, primitiveByDefinition(p, plainOf(x))))
				wantPrimitive(t, call("PrimitivePart", spelling(x)), part, true)
			}
		}
	}
}

// wantPrimitiveByDefinition checks a sum, and the same beside the empty word, and beside another word.
func wantPrimitiveByDefinition(t *testing.T, x impl.Sum) {
	t.Helper()
	wantPrimitive(t, "by definition", x, isPrimitiveByDefinition(x))
	for _, value := range []int64{1, x.Prime - 1} {
		if len(x.Terms) == impl.MaxTerms {
			continue
		}
		wantPrimitive(t, "beside the empty word", withEmpty(x, value), false)
		coefficients := plainOf(x)
		coefficients["abcacb"] += value
		other := sumByDefinition(x.Prime, coefficients)
		wantPrimitive(t, "with another word", other, isPrimitiveByDefinition(other))
	}
}

func TestIsPrimitiveByDefinition(t *testing.T) {
	for _, p := range primes {
		for _, x := range slices.Concat(dividedSums(p), primitiveSums(p, maxDivided), tooLongSums(p), mixedSums(p, impl.MaxChords)) {
			wantPrimitiveByDefinition(t, x)
		}
		for number, w := range wordsOfSize(5) {
			if number%40 == int(p) {
				wantPrimitiveByDefinition(t, one(p, letters(w), 1))
			}
		}
	}
}

// TestPowersThatArePrimitive takes aa multiplied n times: other pairs than those with the empty word go
// just if all numbers of choices are 0 modulo p.
func TestPowersThatArePrimitive(t *testing.T) {
	isPower := map[[2]int64]bool{{2, 2}: true, {2, 4}: true, {3, 3}: true, {5, 5}: true}
	for _, p := range primes {
		for n := range int64(impl.MaxChords + 1) {
			want := n == 1 || isPower[[2]int64{p, n}]
			for _, value := range []int64{1, p - 1} {
				wantPrimitive(t, call("a power", p, n), one(p, powerText(int(n)), value), want)
			}
		}
	}
}

// TestPrimitiveSumsWithManyTerms takes sums of commutators, for which more than MaxPairs pairs arise and
// go, and sums of as many Terms that are not primitive, whose pairs are too many for CoproductOf.
func TestPrimitiveSumsWithManyTerms(t *testing.T) {
	for _, p := range []int64{5, 7, 11, 13} {
		four := slices.DeleteFunc(primitiveSums(p, 4), func(x impl.Sum) bool { return len(cutSum(x, 3).Terms) > 0 })
		two := one(p, "abab", 1)
		two = minus(t, two, one(p, "aabb", 1))
		total := plain{}
		for _, x := range four {
			more := plainOf(sumByDefinition(p, total))
			for text, value := range commutatorByDefinition(x, two) {
				more[text] += value
			}
			if len(sumByDefinition(p, more).Terms) <= impl.MaxTerms {
				total = more
			}
		}
		sum := sumByDefinition(p, total)
		if pairs := len(coproductByDefinition(total)); len(sum.Terms) < 150 || pairs <= impl.MaxPairs {
			t.Fatalf("%d Terms, %d pairs", len(sum.Terms), pairs)
		}
		wantPrimitive(t, "commutators", sum, true)
		other := sumByDefinition(p, plain{letters(sum.Terms[0].Word): 1})
		wantPrimitive(t, "commutators and a word", mustAdd(t, sum, other), false)
		longest := firstOf(p, wordsOfSize(6), impl.MaxTerms)
		if _, code := impl.CoproductOf(longest); code != impl.ErrLimit {
			t.Errorf("CoproductOf %d words: code %d", impl.MaxTerms, code)
		}
		wantPrimitive(t, "words of six chords", longest, false)
	}
}

// wantCommutator checks a commutator, or that it has too many Terms: then it returns no Terms.
func wantCommutator(t *testing.T, x, y impl.Sum) impl.Sum {
	t.Helper()
	commutator, code := impl.CommutatorOf(x, y)
	want := sumByDefinition(x.Prime, commutatorByDefinition(x, y))
	if len(want.Terms) > impl.MaxTerms {
		wantCode(t, call("CommutatorOf", spelling(x), spelling(y)), sumOutcome(commutator, code), impl.ErrLimit)
		return impl.Sum{Prime: x.Prime}
	}
	wantSum(t, call("CommutatorOf", spelling(x), spelling(y)), commutator, code, want)
	return commutator
}

func TestCommutatorsOfPrimitiveSumsArePrimitive(t *testing.T) {
	for _, p := range primes {
		for _, x := range primitiveSums(p, 3) {
			for _, y := range primitiveSums(p, 3) {
				wantPrimitive(t, call("CommutatorOf", spelling(x), spelling(y)), wantCommutator(t, x, y), true)
			}
		}
		for _, x := range everyOther(primitiveSums(p, maxDivided), 3) {
			for _, y := range primitiveSums(p, 2) {
				wantPrimitive(t, call("CommutatorOf", spelling(x), spelling(y)), wantCommutator(t, x, y), true)
				wantPrimitive(t, call("CommutatorOf", spelling(y), spelling(x)), wantCommutator(t, y, x), true)
			}
		}
	}
}

func TestCommutatorsByDefinition(t *testing.T) {
	for _, p := range primes {
		for _, x := range mixedSums(p, 3) {
			for _, y := range mixedSums(p, 3) {
				wantCommutator(t, x, y)
			}
			wantSum(t, "CommutatorOf a sum and itself", wantCommutator(t, x, x), 0, impl.Sum{Prime: p})
		}
		for _, x := range mixedSums(p, impl.MaxChords) {
			for _, y := range []impl.Sum{{Prime: p}, one(p, "", p-1)} {
				wantSum(t, "CommutatorOf a sum and a number", wantCommutator(t, x, y), 0, impl.Sum{Prime: p})
				wantSum(t, "CommutatorOf a number and a sum", wantCommutator(t, y, x), 0, impl.Sum{Prime: p})
			}
		}
	}
	for _, x := range smallSums(2) {
		for _, y := range smallSums(2) {
			wantCommutator(t, x, y)
		}
	}
}

// TestCommutatorsOfManyChords takes joined words of just MaxChords chords and of more.
func TestCommutatorsOfManyChords(t *testing.T) {
	for _, p := range primes {
		for first := range impl.MaxChords + 1 {
			for second := range impl.MaxChords + 1 {
				a, b := wordsOfSize(first), wordsOfSize(second)
				x, y := one(p, letters(a[len(a)-1]), p-1), one(p, letters(b[len(b)/2]), 1)
				if first+second <= impl.MaxChords {
					wantCommutator(t, x, y)
					continue
				}
				wantCode(t, call("CommutatorOf", spelling(x), spelling(y)), sumOutcome(impl.CommutatorOf(x, y)), impl.ErrLimit)
			}
		}
		// Just one of the products is too long, and what is too long would go again.
		x, y := sumByDefinition(p, plain{"": 1, "aa": 1, "abcabc": 1}), sumByDefinition(p, plain{"": 1, "abab": 1, "abcdabcd": 1})
		wantCode(t, call("CommutatorOf", p), sumOutcome(impl.CommutatorOf(x, y)), impl.ErrLimit)
		wantCode(t, call("CommutatorOf", p), sumOutcome(impl.CommutatorOf(y, x)), impl.ErrLimit)
		wantCode(t, call("CommutatorOf the same", p), sumOutcome(impl.CommutatorOf(y, y)), impl.ErrLimit)
	}
}

// TestCommutatorsUpToTheLimit takes commutators of 199 to 202 Terms, if there are such, and commutators
// with few Terms of products with many.
func TestCommutatorsUpToTheLimit(t *testing.T) {
	for _, p := range primes {
		a := one(p, "aa", 1)
		// The last word and the one before lead to three Terms, or, for 2, to two, as one goes.
		for _, most := range []int{199, 200, 201, 202} {
			// Each other word leads to two Terms; these both lead to three, or, for 2, to two.
			x := plain{}
			if most%2 == 1 {
				x = plain{"aabcdebcde": 1, "abcdabcdee": 2}
			}
			if p == 2 && most%2 == 1 {
				continue
			}
			sizeOf := func(x plain) int {
				return len(sumByDefinition(p, commutatorByDefinition(sumByDefinition(p, x), a)).Terms)
			}
			for _, w := range everyOther(wordsOfSize(5), 7) {
				x[letters(w)] = 1
				if sizeOf(x) > most {
					delete(x, letters(w))
				}
			}
			sum := sumByDefinition(p, x)
			if size := sizeOf(x); size != most || len(sum.Terms) > impl.MaxTerms {
				t.Fatalf("for %d a commutator of %d Terms in the place of %d", p, size, most)
			}
			wantCommutator(t, sum, a)
			wantCommutator(t, a, sum)
		}
	}
}

// TestFewTermsOfManyProducts takes x and x with a word more: x x goes, with all of its Terms.
func TestFewTermsOfManyProducts(t *testing.T) {
	for _, p := range primes {
		for _, x := range []impl.Sum{firstOf(p, wordsOfSize(3), 15), firstOf(p, wordsUpTo(3), 20)} {
			x.Terms[len(x.Terms)-1].Value = p - 1
			y := mustAdd(t, x, one(p, "abab", 1))
			if _, code := impl.JoinSums(x, y); code != impl.ErrLimit {
				t.Fatalf("JoinSums(%s, %s): code %d", spelling(x), spelling(y), code)
			}
			want := wantCommutator(t, x, one(p, "abab", 1))
			wantSum(t, "CommutatorOf", wantCommutator(t, x, y), 0, want)
			wantSum(t, "CommutatorOf the same", wantCommutator(t, x, x), 0, impl.Sum{Prime: p})
		}
		full := firstOf(p, wordsOfSize(6), impl.MaxTerms)
		wantSum(t, "CommutatorOf 200 Terms and 1", wantCommutator(t, full, one(p, "", 1)), 0, impl.Sum{Prime: p})
	}
}

// numbersFor are the n in 0..maxDivided that are less than p.
func numbersFor(p int64) []int64 {
	numbers := []int64{}
	for n := range min(p, maxDivided+1) {
		numbers = append(numbers, n)
	}
	return numbers
}

func TestExponentialsOfPrimitiveSumsAreGroupLike(t *testing.T) {
	for _, p := range primes {
		for _, x := range primitiveSums(p, maxDivided) {
			for _, n := range numbersFor(p) {
				exponential, code := impl.ExponentialOf(x, n)
				wantSum(t, call("ExponentialOf", spelling(x), n), exponential, code, exponentialByDefinition(x, int(n)))
				wantGroupLike(t, call("ExponentialOf", spelling(x), n), exponential, n, true)
				logarithm, code := impl.LogarithmOf(exponential, n)
				wantSum(t, call("LogarithmOf", spelling(exponential), n), logarithm, code, cutSum(x, int(n)))
				wantPrimitive(t, call("LogarithmOf", spelling(exponential), n), logarithm, true)
				// The antipode of a group-like sum is its opposite.
				antipode := mustDivide(t, impl.AntipodeOf, exponential)
				wantSum(t, "the product with the antipode", sumByDefinition(p, cutProduct(p, plainOf(antipode), plainOf(exponential), int(n))), 0, one(p, "", 1))
			}
		}
	}
}

func TestLogarithmsLeadBack(t *testing.T) {
	for _, p := range primes {
		for _, x := range dividedSums(p) {
			for _, n := range numbersFor(p) {
				without, with := withEmpty(x, 0), withEmpty(x, 1)
				exponential, code := impl.ExponentialOf(without, n)
				wantSum(t, call("ExponentialOf", spelling(without), n), exponential, code, exponentialByDefinition(without, int(n)))
				back, code := impl.LogarithmOf(exponential, n)
				wantSum(t, call("LogarithmOf", spelling(exponential), n), back, code, cutSum(without, int(n)))
				logarithm, code := impl.LogarithmOf(with, n)
				wantSum(t, call("LogarithmOf", spelling(with), n), logarithm, code, logarithmByDefinition(with, int(n)))
				back, code = impl.ExponentialOf(logarithm, n)
				wantSum(t, call("ExponentialOf", spelling(logarithm), n), back, code, cutSum(with, int(n)))
			}
		}
	}
}

func TestIsGroupLikeByDefinition(t *testing.T) {
	for _, p := range primes {
		for _, x := range slices.Concat(dividedSums(p), primitiveSums(p, maxDivided)) {
			for n := range int64(maxDivided + 1) {
				for _, value := range []int64{0, 1, p - 1} {
					sum := withEmpty(x, value)
					wantGroupLike(t, "by definition", sum, n, isGroupLikeByDefinition(sum, int(n)))
				}
			}
		}
	}
}

// TestOneTermBesideGroupLikeSums takes group-like sums with one coefficient that is another one, for
// words of each number of chords: those of more than n do not count.
func TestOneTermBesideGroupLikeSums(t *testing.T) {
	const p = 7
	for _, x := range everyOther(primitiveSums(p, maxDivided), 5) {
		for n := range int64(maxDivided + 1) {
			group, code := impl.ExponentialOf(x, n)
			wantValue(t, "ExponentialOf", code, code, impl.ErrNone)
			for number, w := range wordsUpTo(maxDivided) {
				if number > 19 && number%13 != 0 {
					continue
				}
				changed := plainOf(group)
				changed[letters(w)]++
				sum := sumByDefinition(p, changed)
				isGroup := isGroupLikeByDefinition(sum, int(n))
				// Primitive words may be added where they have n chords.
				if len(w) > 2*int(n) != isGroup && len(w) != 2*int(n) {
					t.Fatalf("%s for %d: %v", spelling(sum), n, isGroup)
				}
				wantGroupLike(t, "one Term beside", sum, n, isGroup)
			}
		}
	}
}

func TestGroupLikeEdges(t *testing.T) {
	for _, p := range primes {
		for _, c := range []struct {
			x    plain
			n    int64
			want bool
		}{
			{plain{}, 0, true}, {plain{}, 4, true}, {plain{"": 1}, 0, true}, {plain{"": 1}, 4, true},
			// Without the empty word, words of at most n chords are too many, and others do not count.
			{plain{"abab": 1}, 0, true}, {plain{"abab": 1}, 1, true}, {plain{"abab": 1}, 2, false}, {plain{"abab": 1}, 4, false},
			{plain{"aa": 1}, 0, true}, {plain{"aa": 1}, 1, false}, {plain{"": 1, "aa": 1}, 0, true}, {plain{"": 1, "aa": 1}, 1, true},
			{plain{"": 1, "aa": 1}, 2, false}, {plain{"": 1, "abcdabcd": 1}, 3, true},
			{plain{"": 1, "aabb": 1, "abab": -1}, 3, true}, {plain{"": 1, "aabb": 1, "abab": -1}, 4, false},
			{plain{"": 1, "aa": 1, "abab": 1}, 2, false},
			{plain{"": 1, "aa": 2, "aabb": 2}, 2, true}, {plain{"": 1, "aa": 2, "abab": 2}, 2, true},
			// For 2 just the empty word is left, or pairs of the coproduct go.
			{plain{"": 1, "aa": 2, "aabb": 2}, 3, p == 2}, {plain{"": 1, "aa": 2, "abab": 3}, 2, p == 2},
			{plain{"": 1, "abab": 1}, 2, p == 2}, {plain{"": 1, "abcdabcd": 1}, 4, p == 2},
		} {
			wantGroupLike(t, "an edge", sumByDefinition(p, c.x), c.n, c.want)
		}
		for value := int64(2); value < p; value++ {
			for n := range int64(maxDivided + 1) {
				wantGroupLike(t, "another number of the empty word", one(p, "", value), n, false)
			}
		}
	}
}

// TestTotalsOfAntipodes uses that the numbers of divisions with signs add up to (-1)^n.
func TestTotalsOfAntipodes(t *testing.T) {
	for _, p := range primes {
		for _, w := range wordsUpTo(maxDivided) {
			total, code := impl.TotalOf(mustDivide(t, impl.AntipodeOf, one(p, letters(w), 1)))
			wantValue(t, call("TotalOf the antipode", p, letters(w)), total, code, residue([]int64{1, -1}[len(w)/2%2], p))
		}
	}
}

func TestHopfSumsWithoutTerms(t *testing.T) {
	for _, p := range primes {
		none := impl.Sum{Prime: p}
		for _, x := range []impl.Sum{none, {Prime: p, Terms: []impl.Term{}}, {Prime: p, Terms: make([]impl.Term, 0, 9)}} {
			wantSum(t, "AntipodeOf without Terms", mustDivide(t, impl.AntipodeOf, x), 0, none)
			wantSum(t, "PrimitivePart without Terms", mustDivide(t, impl.PrimitivePart, x), 0, none)
			wantSum(t, "ConvolveAntipode without Terms", mustDivide(t, impl.ConvolveAntipode, x), 0, none)
			wantPrimitive(t, "without Terms", x, true)
			wantSum(t, "CommutatorOf without Terms", wantCommutator(t, x, x), 0, none)
			for n := range int64(maxDivided + 1) {
				wantGroupLike(t, "without Terms", x, n, true)
				exponential, code := impl.ExponentialOf(x, n)
				if n >= p {
					wantCode(t, call("ExponentialOf without Terms", p, n), sumOutcome(exponential, code), impl.ErrState)
					continue
				}
				wantSum(t, "ExponentialOf without Terms", exponential, code, one(p, "", 1))
				logarithm, code := impl.LogarithmOf(exponential, n)
				wantSum(t, "LogarithmOf the empty word", logarithm, code, none)
			}
		}
	}
}

// TestHopfExamples has results that are reckoned by hand.
func TestHopfExamples(t *testing.T) {
	wantText := func(what string, got impl.Sum, code int64, want string) {
		t.Helper()
		if code != impl.ErrNone || textByDefinition(got) != want {
			t.Errorf("%s = %s, code %d; want %s", what, textByDefinition(got), code, want)
		}
	}
	sum, code := impl.AntipodeOf(one(5, "abab", 1))
	wantText("AntipodeOf(1*abab)", sum, code, "2*aabb+4*abab")
	sum, code = impl.AntipodeOf(one(7, "abcacb", 2))
	wantText("AntipodeOf(2*abcacb)", sum, code, "2*aabbcc+4*aabcbc+2*aabccb+4*ababcc+2*abbacc+5*abcacb")
	sum, code = impl.PrimitivePart(one(5, "abab", 1))
	wantText("PrimitivePart(1*abab)", sum, code, "4*aabb+1*abab")
	sum, code = impl.PrimitivePart(one(5, "aabb", 1))
	wantText("PrimitivePart(1*aabb)", sum, code, "0")
	sum, code = impl.CommutatorOf(one(3, "aa", 1), one(3, "abab", 2))
	wantText("CommutatorOf(1*aa, 2*abab)", sum, code, "2*aabcbc+1*ababcc")
	sum, code = impl.ExponentialOf(one(5, "aa", 2), 4)
	wantText("ExponentialOf(2*aa, 4)", sum, code, "1*+2*aa+2*aabb+3*aabbcc+4*aabbccdd")
	sum, code = impl.LogarithmOf(sumByDefinition(5, plain{"": 1, "aa": 1}), 4)
	wantText("LogarithmOf(1*+1*aa, 4)", sum, code, "1*aa+2*aabb+2*aabbcc+1*aabbccdd")
}
