package tests

import (
	"testing"

	"loop.example/g01303/impl"
)

// wantRuleOfProducts checks that the derivative of a product is D(x) y + x D(y).
func wantRuleOfProducts(t *testing.T, x, y impl.Sum) {
	t.Helper()
	product := mustJoin(t, x, y)
	ofX, codeOfX := impl.DerivativeOf(x)
	ofY, codeOfY := impl.DerivativeOf(y)
	if codeOfX != impl.ErrNone || codeOfY != impl.ErrNone {
		t.Fatalf("DerivativeOf(%s), DerivativeOf(%s): codes %d, %d", spelling(x), spelling(y), codeOfX, codeOfY)
	}
	want := mustAdd(t, mustJoin(t, ofX, y), mustJoin(t, x, ofY))
	got, code := impl.DerivativeOf(product)
	wantSum(t, call("derivative of the product", spelling(x), spelling(y)), got, code, want)
}

func TestDerivativesObeyTheRuleOfProducts(t *testing.T) {
	words := wordsUpTo(3)
	for number, a := range words {
		for other, b := range words {
			p := primes[(number+other)%len(primes)]
			wantRuleOfProducts(t, one(p, letters(a), int64(1+number%int(p-1))), one(p, letters(b), p-1))
		}
	}
	for _, p := range primes {
		sums := mixedSums(p, 3)
		for _, x := range sums {
			for _, y := range sums {
				wantRuleOfProducts(t, x, y)
			}
		}
	}
}

func TestDerivativesByDefinition(t *testing.T) {
	for number, w := range wordsUpTo(impl.MaxChords) {
		p := primes[number%len(primes)]
		x := one(p, letters(w), p-1)
		got, code := impl.DerivativeOf(x)
		wantSum(t, call("DerivativeOf", spelling(x)), got, code, sumByDefinition(p, derivativeByDefinition(plainOf(x))))
	}
	for _, p := range primes {
		for _, x := range mixedSums(p, impl.MaxChords) {
			got, code := impl.DerivativeOf(x)
			wantSum(t, call("DerivativeOf", spelling(x)), got, code, sumByDefinition(p, derivativeByDefinition(plainOf(x))))
		}
	}
}

// wantSymmetricCoproduct checks a coproduct, and that it does not change if First and Second of all
// pairs are exchanged and the pairs put in order again.
func wantSymmetricCoproduct(t *testing.T, x impl.Sum) {
	t.Helper()
	pairs, code := impl.CoproductOf(x)
	wantPairs(t, call("CoproductOf", spelling(x)), pairs, code, pairsByDefinition(x.Prime, coproductByDefinition(plainOf(x))))
	exchanged := plainPairs{}
	for _, pair := range pairs {
		exchanged[[2]string{letters(pair.Second), letters(pair.First)}] += pair.Value
	}
	wantPairs(t, call("exchanged CoproductOf", spelling(x)), pairs, code, pairsByDefinition(x.Prime, exchanged))
}

func TestCoproductsDoNotChangeIfSidesAreExchanged(t *testing.T) {
	for number, w := range wordsUpTo(5) {
		p := primes[number%len(primes)]
		wantSymmetricCoproduct(t, one(p, letters(w), p-1))
	}
	for number, w := range wordsOfSize(impl.MaxChords) {
		if number%20 == 0 {
			wantSymmetricCoproduct(t, one(primes[number/20%len(primes)], letters(w), 1))
		}
	}
	for _, p := range primes {
		for _, x := range append(mixedSums(p, 4), mixed(p, wordsOfSize(5), 12, 3), mixed(p, wordsOfSize(6), 8, 2)) {
			wantSymmetricCoproduct(t, x)
		}
	}
}

// wantBracketed checks that both ways to multiply three sums lead to the same.
func wantBracketed(t *testing.T, x, y, z impl.Sum) {
	t.Helper()
	first := mustJoin(t, mustJoin(t, x, y), z)
	second := mustJoin(t, x, mustJoin(t, y, z))
	if !equalSums(first, second) {
		t.Errorf("%s, %s, %s multiplied: %s and %s", spelling(x), spelling(y), spelling(z), spelling(first), spelling(second))
	}
}

func TestProductsMayBeBracketed(t *testing.T) {
	for _, p := range primes {
		sums := mixedSums(p, 2)
		for _, x := range sums {
			for _, y := range sums {
				for _, z := range sums {
					wantBracketed(t, x, y, z)
				}
			}
		}
	}
}

func TestProductsByDefinition(t *testing.T) {
	for _, p := range primes {
		sums := append(mixedSums(p, 3), impl.Sum{Prime: p, Terms: []impl.Term{{Value: p - 1}, {Word: spelt("aa"), Value: 1}}})
		for _, x := range sums {
			for _, y := range sums {
				got, code := impl.JoinSums(x, y)
				wantSum(t, call("JoinSums", spelling(x), spelling(y)), got, code, sumByDefinition(p, productByDefinition(x, y)))
			}
		}
		longest := mixed(p, wordsOfSize(impl.MaxChords), 50, 1)
		unit := one(p, "", 1)
		wantSum(t, "the product of a sum and 1", mustJoin(t, longest, unit), 0, longest)
		wantSum(t, "the product of 1 and a sum", mustJoin(t, unit, longest), 0, longest)
		wantSum(t, "the product of a sum and none", mustJoin(t, longest, impl.Sum{Prime: p}), 0, impl.Sum{Prime: p})
		wantSum(t, "the product of none and a sum", mustJoin(t, impl.Sum{Prime: p}, longest), 0, impl.Sum{Prime: p})
	}
}

// TestProductsAreMadeOne takes different pairs of words with the same joined word.
func TestProductsAreMadeOne(t *testing.T) {
	x := sumByDefinition(3, plain{"aa": 1, "aabb": 1})
	got, code := impl.JoinSums(x, x)
	wantSum(t, "JoinSums", got, code, sumByDefinition(3, plain{"aabb": 1, "aabbcc": 2, "aabbccdd": 1}))
	y := sumByDefinition(3, plain{"aa": 1, "aabb": 2})
	got, code = impl.JoinSums(x, y)
	wantSum(t, "JoinSums with a coefficient that becomes 0", got, code, sumByDefinition(3, plain{"aabb": 1, "aabbccdd": 2}))
}

func TestAddedSums(t *testing.T) {
	for _, p := range primes {
		sums := append(mixedSums(p, 4), mixed(p, wordsOfSize(impl.MaxChords), 9, 1))
		for _, x := range sums {
			for _, y := range sums {
				for k := range p {
					want := plainOf(x)
					for text, value := range plainOf(y) {
						want[text] += k * value
					}
					got, code := impl.AddSums(x, y, k)
					wantSum(t, call("AddSums", spelling(x), spelling(y), k), got, code, sumByDefinition(p, want))
				}
			}
		}
	}
}

func TestSumsOfOneWordAndCoefficients(t *testing.T) {
	words := append(wordsUpTo(3), spelt("abcdefabcdef"), spelt("aabbccddeeff"))
	for _, p := range primes {
		for _, w := range words {
			for value := range p {
				x, code := impl.SumOfWord(p, w, value)
				wantSum(t, call("SumOfWord", p, letters(w), value), x, code, one(p, letters(w), value))
				got, code := impl.CoefficientAt(x, w)
				wantValue(t, call("CoefficientAt", spelling(x), letters(w)), got, code, value)
			}
		}
		for _, x := range mixedSums(p, 3) {
			coefficients := plainOf(x)
			for _, w := range words {
				got, code := impl.CoefficientAt(x, w)
				wantValue(t, call("CoefficientAt", spelling(x), letters(w)), got, code, coefficients[letters(w)])
			}
		}
	}
}

func TestCircleSumsOfRotatedSumsAreCircleSums(t *testing.T) {
	for _, p := range primes {
		for _, x := range append(mixedSums(p, 4), mixed(p, wordsOfSize(impl.MaxChords), 30, 7)) {
			want := sumByDefinition(p, replacedByDefinition(x, leastByDefinition))
			circle, code := impl.CircleSum(x)
			wantSum(t, call("CircleSum", spelling(x)), circle, code, want)
			again, code := impl.CircleSum(circle)
			wantSum(t, call("CircleSum twice", spelling(x)), again, code, want)
			for _, k := range []int64{0, 1, 2, 3, 5, 8, 11, 12, 13, 24, 25, 997, 999, 1000} {
				turned, code := impl.RotateSum(x, k)
				wantSum(t, call("RotateSum", spelling(x), k), turned, code, sumByDefinition(p, replacedByDefinition(x, func(w []int64) []int64 {
					return rotatedByDefinition(w, int(k)%max(1, len(w)))
				})))
				circle, code := impl.CircleSum(turned)
				wantSum(t, call("CircleSum of RotateSum", spelling(x), k), circle, code, want)
			}
		}
	}
}

// TestWordsOnCirclesAreMadeOne takes words that are the same on the circle, whose Values add up to
// 0 for one of the primes.
func TestWordsOnCirclesAreMadeOne(t *testing.T) {
	for _, p := range primes {
		got, code := impl.CircleSum(sumByDefinition(p, plain{"aabb": 1, "abba": p - 1, "abab": 1}))
		wantSum(t, "CircleSum", got, code, one(p, "abab", 1))
	}
	got, code := impl.CircleSum(sumByDefinition(3, plain{"aabb": 1, "abab": 1, "abba": 1}))
	wantSum(t, "CircleSum(1*aabb+1*abab+1*abba)", got, code, sumByDefinition(3, plain{"aabb": 2, "abab": 1}))
	// Each word of n chords turned back by its own number of places.
	for k := range int64(1001) {
		x := sumByDefinition(7, plain{"": 3, "aa": 1, "aabb": 2, "aabcbc": 3, "abbcddac": 4, "aabbcdedce": 5, "aabbccdedfef": 6})
		turned, code := impl.RotateSum(x, k)
		wantSum(t, call("RotateSum", spelling(x), k), turned, code, sumByDefinition(7, replacedByDefinition(x, func(w []int64) []int64 {
			return rotatedByDefinition(w, int(k)%max(1, len(w)))
		})))
	}
}

func TestReflectedSums(t *testing.T) {
	for _, p := range primes {
		for _, x := range append(mixedSums(p, 4), mixed(p, wordsOfSize(impl.MaxChords), 30, 4)) {
			once, code := impl.ReflectSum(x)
			wantSum(t, call("ReflectSum", spelling(x)), once, code, sumByDefinition(p, replacedByDefinition(x, reflectedByDefinition)))
			twice, code := impl.ReflectSum(once)
			wantSum(t, call("ReflectSum twice", spelling(x)), twice, code, x)
		}
	}
}

func TestPartsAddUpToTheSum(t *testing.T) {
	for _, p := range primes {
		for _, x := range append(mixedSums(p, impl.MaxChords), mixed(p, wordsUpTo(impl.MaxChords), 60, 5)) {
			total := impl.Sum{Prime: p}
			for n := range int64(impl.MaxChords + 1) {
				want := plain{}
				for text, value := range plainOf(x) {
					if len(text) == 2*int(n) {
						want[text] = value
					}
				}
				part, code := impl.PartOfSum(x, n)
				wantSum(t, call("PartOfSum", spelling(x), n), part, code, sumByDefinition(p, want))
				total = mustAdd(t, total, part)
			}
			wantSum(t, "the parts together", total, 0, x)
		}
	}
}

func TestTotals(t *testing.T) {
	for _, p := range primes {
		for _, x := range append(mixedSums(p, 5), firstOf(p, wordsOfSize(6), impl.MaxTerms)) {
			want := int64(0)
			for _, term := range x.Terms {
				want += term.Value
			}
			total, code := impl.TotalOf(x)
			wantValue(t, call("TotalOf", spelling(x)), total, code, want%p)
		}
	}
}

// wantFromText checks that a sum has its text, and comes back from it.
func wantFromText(t *testing.T, x impl.Sum) {
	t.Helper()
	text, code := impl.SumText(x)
	wantValue(t, call("SumText", spelling(x)), text, code, textByDefinition(x))
	back, code := impl.ParseSum(x.Prime, text)
	wantSum(t, call("ParseSum", x.Prime, text), back, code, x)
}

func TestSumsComeBackFromTexts(t *testing.T) {
	for _, p := range primes {
		for _, x := range mixedSums(p, impl.MaxChords) {
			wantFromText(t, x)
		}
		for value := int64(1); value < p; value++ {
			for _, text := range []string{"", "aa", "abba", "abcdefabcdef"} {
				wantFromText(t, one(p, text, value))
			}
		}
		longest := firstOf(p, wordsOfSize(6), impl.MaxTerms)
		for k := range longest.Terms {
			longest.Terms[k].Value = p - 1
		}
		wantFromText(t, longest)
	}
	wantFromText(t, sumByDefinition(13, plain{"": 10, "aa": 12, "abab": 1, "abba": 11}))
}

// TestSumsWithoutTerms takes them with nil and with an empty list that has room behind it.
func TestSumsWithoutTerms(t *testing.T) {
	for _, p := range primes {
		for _, x := range []impl.Sum{{Prime: p}, {Prime: p, Terms: []impl.Term{}}, {Prime: p, Terms: make([]impl.Term, 0, 9)}} {
			if !impl.IsSum(x) {
				t.Errorf("IsSum(%v) = false", x)
			}
			none := impl.Sum{Prime: p}
			sum, code := impl.AddSums(x, x, p-1)
			wantSum(t, "AddSums without Terms", sum, code, none)
			sum, code = impl.JoinSums(x, x)
			wantSum(t, "JoinSums without Terms", sum, code, none)
			number, code := impl.CoefficientAt(x, nil)
			wantValue(t, "CoefficientAt without Terms", number, code, 0)
			pairs, code := impl.CoproductOf(x)
			wantPairs(t, "CoproductOf without Terms", pairs, code, nil)
			sum, code = impl.DerivativeOf(x)
			wantSum(t, "DerivativeOf without Terms", sum, code, none)
			sum, code = impl.CircleSum(x)
			wantSum(t, "CircleSum without Terms", sum, code, none)
			sum, code = impl.ReflectSum(x)
			wantSum(t, "ReflectSum without Terms", sum, code, none)
			sum, code = impl.PartOfSum(x, 0)
			wantSum(t, "PartOfSum without Terms", sum, code, none)
			sum, code = impl.RotateSum(x, 1000)
			wantSum(t, "RotateSum without Terms", sum, code, none)
			number, code = impl.TotalOf(x)
			wantValue(t, "TotalOf without Terms", number, code, 0)
			text, code := impl.SumText(x)
			wantValue(t, "SumText without Terms", text, code, "0")
			sum, code = impl.ParseSum(p, "0")
			wantSum(t, "ParseSum of 0", sum, code, none)
			sum, code = impl.SumOfWord(p, spelt("abab"), 0)
			wantSum(t, "SumOfWord with 0", sum, code, none)
		}
	}
}

func TestSumExamples(t *testing.T) {
	pairs, code := impl.CoproductOf(one(3, "abab", 1))
	wantPairs(t, "CoproductOf(1*abab)", pairs, code, []impl.Pair{
		{First: nil, Second: spelt("abab"), Value: 1}, {First: spelt("aa"), Second: spelt("aa"), Value: 2},
		{First: spelt("abab"), Second: nil, Value: 1},
	})
	// The pairs come in the order of First, fewer chords ahead, and not as the letters say.
	pairs, code = impl.CoproductOf(one(5, "aabcbc", 2))
	wantPairs(t, "CoproductOf(2*aabcbc)", pairs, code, []impl.Pair{
		{First: nil, Second: spelt("aabcbc"), Value: 2}, {First: spelt("aa"), Second: spelt("aabb"), Value: 4},
		{First: spelt("aa"), Second: spelt("abab"), Value: 2}, {First: spelt("aabb"), Second: spelt("aa"), Value: 4},
		{First: spelt("abab"), Second: spelt("aa"), Value: 2}, {First: spelt("aabcbc"), Second: nil, Value: 2},
	})
	pairs, code = impl.CoproductOf(one(2, "abab", 1))
	wantPairs(t, "CoproductOf(1*abab) for 2", pairs, code, []impl.Pair{
		{First: nil, Second: spelt("abab"), Value: 1}, {First: spelt("abab"), Second: nil, Value: 1},
	})
	pairs, code = impl.CoproductOf(one(7, "", 6))
	wantPairs(t, "CoproductOf(6*)", pairs, code, []impl.Pair{{Value: 6}})
	sum, code := impl.DerivativeOf(one(5, "", 4))
	wantSum(t, "DerivativeOf(4*)", sum, code, impl.Sum{Prime: 5})
	sum, code = impl.DerivativeOf(one(2, "aabbccddeeff", 1))
	wantSum(t, "DerivativeOf six chords for 2", sum, code, impl.Sum{Prime: 2})
	sum, code = impl.DerivativeOf(one(11, "aabbccddeeff", 10))
	wantSum(t, "DerivativeOf six chords for 11", sum, code, one(11, "aabbccddee", 5))
}

// grown adds words to a sum, with the Value 1, each unless a size of the sum would then be more than
// most, until it is most.
func grown(words [][]int64, most int, sizeOf func(x plain) int) plain {
	x := plain{}
	for _, w := range words {
		x[letters(w)] = 1
		size := sizeOf(x)
		if size == most {
			return x
		}
		if size > most {
			delete(x, letters(w))
		}
	}
	return x
}

func TestDerivativesUpToTheLimit(t *testing.T) {
	for _, p := range []int64{2, 13} {
		words := append(everyOther(wordsOfSize(6), 97), wordsUpTo(3)...)
		for _, most := range []int{199, 200, 201} {
			x := grown(words, most, func(x plain) int {
				return len(sumByDefinition(p, derivativeByDefinition(x)).Terms)
			})
			want := sumByDefinition(p, derivativeByDefinition(x))
			if len(want.Terms) != most || p == 2 && len(derivativeByDefinition(x)) <= most {
				t.Fatalf("for %d a derivative of %d terms, %d before they are made one", p, len(want.Terms), len(derivativeByDefinition(x)))
			}
			got, code := impl.DerivativeOf(sumByDefinition(p, x))
			if most > 200 {
				wantCode(t, call("DerivativeOf with terms", p, most), sumOutcome(got, code), impl.ErrLimit)
				continue
			}
			wantSum(t, call("DerivativeOf with terms", p, most), got, code, want)
		}
	}
}

func TestCoproductsUpToTheLimit(t *testing.T) {
	for _, p := range []int64{2, 13} {
		// The empty word, which comes last, has just one pair.
		words := append(append(everyOther(wordsOfSize(6), 301), wordsUpTo(4)[1:]...), nil)
		for _, most := range []int{599, 600, 601} {
			x := grown(words, most, func(x plain) int { return len(pairsByDefinition(p, coproductByDefinition(x))) })
			want := pairsByDefinition(p, coproductByDefinition(x))
			if len(want) != most || p == 2 && len(coproductByDefinition(x)) <= most {
				t.Fatalf("for %d a coproduct of %d pairs, %d before they are made one", p, len(want), len(coproductByDefinition(x)))
			}
			got, code := impl.CoproductOf(sumByDefinition(p, x))
			if most > 600 {
				wantCode(t, call("CoproductOf with pairs", p, most), listOutcome(got, code), impl.ErrLimit)
				continue
			}
			wantPairs(t, call("CoproductOf with pairs", p, most), got, code, want)
		}
	}
	got, code := impl.CoproductOf(firstOf(5, wordsOfSize(6), impl.MaxTerms))
	wantCode(t, "CoproductOf 200 words of six chords", listOutcome(got, code), impl.ErrLimit)
}

func TestAddedSumsUpToTheLimit(t *testing.T) {
	words := wordsOfSize(6)
	for _, p := range primes {
		full := firstOf(p, words, impl.MaxTerms)
		sum, code := impl.AddSums(firstOf(p, words, 150), firstOf(p, words[150:], 50), 1)
		wantSum(t, "AddSums with 200 terms", sum, code, full)
		wantCode(t, "AddSums with 201 terms", sumOutcome(impl.AddSums(full, one(p, "aa", 1), 1)), impl.ErrLimit)
		wantCode(t, "AddSums with 201 terms", sumOutcome(impl.AddSums(one(p, "aa", 1), full, p-1)), impl.ErrLimit)
		wantCode(t, "AddSums with 400 terms", sumOutcome(impl.AddSums(full, firstOf(p, words[200:], 200), 1)), impl.ErrLimit)
		sum, code = impl.AddSums(full, firstOf(p, words[200:], 200), 0)
		wantSum(t, "AddSums with 0 times others", sum, code, full)
		sum, code = impl.AddSums(full, full, p-1)
		wantSum(t, "AddSums with what takes all away", sum, code, impl.Sum{Prime: p})
		// One Term comes while another one goes.
		sum, code = impl.AddSums(full, sumByDefinition(p, plain{letters(words[0]): -1, "aa": 1}), 1)
		wantSum(t, "AddSums with one for another", sum, code, sumByDefinition(p, func() plain {
			want := plainOf(full)
			delete(want, letters(words[0]))
			want["aa"] = 1
			return want
		}()))
	}
}

func TestProductsUpToTheLimit(t *testing.T) {
	five, four := wordsOfSize(5), wordsOfSize(4)
	for _, p := range primes {
		pair := sumByDefinition(p, plain{"": 1, "aa": 1})
		got, code := impl.JoinSums(firstOf(p, five, 100), pair)
		wantSum(t, "JoinSums with 200 terms", got, code, sumByDefinition(p, productByDefinition(firstOf(p, five, 100), pair)))
		if len(got.Terms) != impl.MaxTerms {
			t.Errorf("a product of %d terms", len(got.Terms))
		}
		// One word more, which makes just one new joined word; for 2 it takes another one away.
		more := mustAdd(t, firstOf(p, five, 100), one(p, "aabbccdd", 1))
		if p == 2 {
			got, code = impl.JoinSums(more, pair)
			wantSum(t, "JoinSums with 200 terms again", got, code, sumByDefinition(p, productByDefinition(more, pair)))
		} else {
			wantCode(t, "JoinSums with 201 terms", sumOutcome(impl.JoinSums(more, pair)), impl.ErrLimit)
		}
		if count := len(sumByDefinition(13, productByDefinition(more, pair)).Terms); count != impl.MaxTerms+1 {
			t.Errorf("a product of %d terms", count)
		}
		wantCode(t, "JoinSums with 202 terms", sumOutcome(impl.JoinSums(firstOf(p, five, 101), pair)), impl.ErrLimit)
		wantCode(t, "JoinSums with 400 terms", sumOutcome(impl.JoinSums(pair, firstOf(p, five, 200))), impl.ErrLimit)
		// (x - x u) (1 + u) is x - x u u: 300 words arise, 100 of which go again.
		unit := sumByDefinition(p, plain{"": 1, "aa": -1})
		rest := mustJoin(t, firstOf(p, four, 100), unit)
		got, code = impl.JoinSums(rest, pair)
		wantSum(t, "JoinSums with terms that go", got, code, mustJoin(t, firstOf(p, four, 100), sumByDefinition(p, plain{"": 1, "aabb": -1})))
	}
}
