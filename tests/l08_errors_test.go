package tests

import (
	"slices"
	"sync"
	"testing"

	"loop.example/g01303/impl"
)

// notNumbersOfChords are numbers next to 0..maxDivided and far away from them.
var notNumbersOfChords = append([]int64{5, 6, 7, -2}, oddNumbers...)

// dividedCalls are the calls with a sum of words of at most maxDivided chords, and with a number for
// those that take one.
func dividedCalls(n int64) map[string]func(x impl.Sum) outcome {
	return map[string]func(x impl.Sum) outcome{
		"AntipodeOf":       func(x impl.Sum) outcome { return sumOutcome(impl.AntipodeOf(x)) },
		"PrimitivePart":    func(x impl.Sum) outcome { return sumOutcome(impl.PrimitivePart(x)) },
		"ExponentialOf":    func(x impl.Sum) outcome { return sumOutcome(impl.ExponentialOf(x, n)) },
		"LogarithmOf":      func(x impl.Sum) outcome { return sumOutcome(impl.LogarithmOf(x, n)) },
		"IsGroupLike":      func(x impl.Sum) outcome { return valueOutcome(impl.IsGroupLike(x, n)) },
		"ConvolveAntipode": func(x impl.Sum) outcome { return sumOutcome(impl.ConvolveAntipode(x)) },
	}
}

// TestNoSumsAreNotDivided takes values that are no sums, beside numbers in their range and beyond, and
// beside sums for other primes and of long words: ErrInvalid comes first.
func TestNoSumsAreNotDivided(t *testing.T) {
	longest := one(2, "abcdefabcdef", 1)
	for _, bad := range notSums() {
		name := call(" with", bad.Prime, len(bad.Terms))
		for _, n := range []int64{0, 4, 5, -1} {
			for what, get := range dividedCalls(n) {
				wantCode(t, call(what, n)+name, get(bad), impl.ErrInvalid)
			}
		}
		wantCode(t, "IsPrimitive"+name, valueOutcome(impl.IsPrimitive(bad)), impl.ErrInvalid)
		wantCode(t, "CommutatorOf first"+name, sumOutcome(impl.CommutatorOf(bad, longest)), impl.ErrInvalid)
		wantCode(t, "CommutatorOf second"+name, sumOutcome(impl.CommutatorOf(longest, bad)), impl.ErrInvalid)
		wantCode(t, "CommutatorOf both"+name, sumOutcome(impl.CommutatorOf(bad, bad)), impl.ErrInvalid)
	}
}

// TestTooManyChordsToDivide takes sums with and without the empty word, and primes that are not greater
// than the numbers: ErrRange comes ahead of ErrState.
func TestTooManyChordsToDivide(t *testing.T) {
	for _, p := range primes {
		sums := tooLongSums(p)
		for size := 5; size <= impl.MaxChords; size++ {
			for _, w := range everyOther(wordsOfSize(size), 300) {
				sums = append(sums, one(p, letters(w), 1), sumByDefinition(p, plain{"": 1, letters(w): 1}), sumByDefinition(p, plain{"": p - 1, "aa": 1, letters(w): 1}))
			}
		}
		for _, x := range sums {
			for n := int64(-1); n <= 5; n++ {
				for what, get := range dividedCalls(n) {
					wantCode(t, call(what, spelling(x), n), get(x), impl.ErrRange)
				}
			}
			// These take words of any number of chords.
			wantPrimitive(t, "a long word", x, isPrimitiveByDefinition(x))
			wantSum(t, "CommutatorOf with the empty word", wantCommutator(t, x, one(p, "", 1)), 0, impl.Sum{Prime: p})
		}
	}
}

// TestNumbersOfChordsOutOfRange takes sums for which ErrState would come as well.
func TestNumbersOfChordsOutOfRange(t *testing.T) {
	for _, p := range primes {
		for _, x := range []impl.Sum{
			{Prime: p}, one(p, "", 1), one(p, "", p-1), one(p, "aa", 1), one(p, "abcdabcd", p-1), sumByDefinition(p, plain{"": 1, "abab": 1}),
		} {
			for _, n := range notNumbersOfChords {
				name := call(" of", spelling(x), n)
				wantCode(t, "ExponentialOf"+name, sumOutcome(impl.ExponentialOf(x, n)), impl.ErrRange)
				wantCode(t, "LogarithmOf"+name, sumOutcome(impl.LogarithmOf(x, n)), impl.ErrRange)
				wantCode(t, "IsGroupLike"+name, valueOutcome(impl.IsGroupLike(x, n)), impl.ErrRange)
			}
		}
	}
	for _, n := range notNumbersOfChords {
		wantCode(t, call("DivisionsOf", n), valueOutcome(impl.DivisionsOf(n)), impl.ErrRange)
	}
}

// TestPrimesNotGreaterThanChords takes each prime and each number of chords, alone and beside others.
func TestPrimesNotGreaterThanChords(t *testing.T) {
	for _, p := range primes {
		for n := range int64(maxDivided + 1) {
			for _, w := range wordsOfSize(int(n)) {
				alone := one(p, letters(w), p-1)
				beside := plainOf(alone)
				beside[""], beside["aa"] = 1, 1
				for _, x := range []impl.Sum{alone, sumByDefinition(p, beside)} {
					part, code := impl.PrimitivePart(x)
					chords := int64(len(x.Terms[len(x.Terms)-1].Word) / 2)
					if p <= chords {
						wantCode(t, call("PrimitivePart", spelling(x)), sumOutcome(part, code), impl.ErrState)
						continue
					}
					wantSum(t, call("PrimitivePart", spelling(x)), part, code, sumByDefinition(p, primitiveByDefinition(p, plainOf(x))))
				}
			}
		}
	}
}

// TestPrimesNotGreaterThanNumbers takes sums with short words, so that just n counts.
func TestPrimesNotGreaterThanNumbers(t *testing.T) {
	for _, p := range primes {
		for n := range int64(maxDivided + 1) {
			for _, x := range []impl.Sum{{Prime: p}, one(p, "aa", 1), one(p, "abcdabcd", p-1), sumByDefinition(p, plain{"aa": 1, "abab": 1, "abcabc": 1})} {
				with := withEmpty(x, 1)
				exponential, code := impl.ExponentialOf(x, n)
				logarithm, other := impl.LogarithmOf(with, n)
				if p <= n {
					wantCode(t, call("ExponentialOf", spelling(x), n), sumOutcome(exponential, code), impl.ErrState)
					wantCode(t, call("LogarithmOf", spelling(with), n), sumOutcome(logarithm, other), impl.ErrState)
					continue
				}
				wantSum(t, call("ExponentialOf", spelling(x), n), exponential, code, exponentialByDefinition(x, int(n)))
				wantSum(t, call("LogarithmOf", spelling(with), n), logarithm, other, logarithmByDefinition(with, int(n)))
			}
		}
	}
}

// TestCoefficientsOfTheEmptyWord takes each coefficient: for exponentials it is 0, for logarithms 1.
func TestCoefficientsOfTheEmptyWord(t *testing.T) {
	for _, p := range primes {
		for value := range p {
			for _, x := range []impl.Sum{{Prime: p}, one(p, "aa", 1), one(p, "abcdabcd", p-1), sumByDefinition(p, plain{"aa": p - 1, "abba": 1})} {
				sum := withEmpty(x, value)
				for _, n := range numbersFor(p) {
					exponential, code := impl.ExponentialOf(sum, n)
					if value == 0 {
						wantSum(t, call("ExponentialOf", spelling(sum), n), exponential, code, exponentialByDefinition(sum, int(n)))
					} else {
						wantCode(t, call("ExponentialOf", spelling(sum), n), sumOutcome(exponential, code), impl.ErrState)
					}
					logarithm, code := impl.LogarithmOf(sum, n)
					if value == 1 {
						wantSum(t, call("LogarithmOf", spelling(sum), n), logarithm, code, logarithmByDefinition(sum, int(n)))
					} else {
						wantCode(t, call("LogarithmOf", spelling(sum), n), sumOutcome(logarithm, code), impl.ErrState)
					}
				}
			}
		}
	}
}

// TestCommutatorsOfDifferentPrimes takes words that would be too long and commutators that would have
// too many Terms: ErrRange comes ahead of ErrLimit.
func TestCommutatorsOfDifferentPrimes(t *testing.T) {
	sumsFor := func(p int64) []impl.Sum {
		return []impl.Sum{{Prime: p}, one(p, "", 1), one(p, "aa", 1), one(p, "abcdefabcdef", 1), firstOf(p, wordsOfSize(5), impl.MaxTerms)}
	}
	for _, p := range primes {
		for _, q := range primes {
			for _, x := range sumsFor(p) {
				for _, y := range sumsFor(q) {
					if p != q {
						wantCode(t, call("CommutatorOf", p, len(x.Terms), q, len(y.Terms)), sumOutcome(impl.CommutatorOf(x, y)), impl.ErrRange)
					}
				}
			}
		}
	}
}

// hopfSums are the calls that return sums, told by all words of their results, with sums of words of at
// most 3 chords for 5 and greater primes.
func hopfSums() map[string]func(x impl.Sum) [][]int64 {
	terms := func(x impl.Sum, code int64) [][]int64 {
		lists := listsOf(x)
		clear(x.Terms[:cap(x.Terms)])
		return append(lists, []int64{code})
	}
	return map[string]func(x impl.Sum) [][]int64{
		"AntipodeOf":       func(x impl.Sum) [][]int64 { return terms(impl.AntipodeOf(x)) },
		"PrimitivePart":    func(x impl.Sum) [][]int64 { return terms(impl.PrimitivePart(x)) },
		"CommutatorOf":     func(x impl.Sum) [][]int64 { return terms(impl.CommutatorOf(x, one(x.Prime, "abcabc", 1))) },
		"CommutatorOf 2":   func(x impl.Sum) [][]int64 { return terms(impl.CommutatorOf(one(x.Prime, "aa", 1), x)) },
		"CommutatorOf x":   func(x impl.Sum) [][]int64 { return terms(impl.CommutatorOf(x, x)) },
		"ExponentialOf 1":  func(x impl.Sum) [][]int64 { return terms(impl.ExponentialOf(x, 1)) },
		"ExponentialOf 4":  func(x impl.Sum) [][]int64 { return terms(impl.ExponentialOf(x, 4)) },
		"LogarithmOf 1":    func(x impl.Sum) [][]int64 { return terms(impl.LogarithmOf(x, 1)) },
		"LogarithmOf 4":    func(x impl.Sum) [][]int64 { return terms(impl.LogarithmOf(x, 4)) },
		"ConvolveAntipode": func(x impl.Sum) [][]int64 { return terms(impl.ConvolveAntipode(x)) },
	}
}

func TestHopfSumsShareNothing(t *testing.T) {
	for name, get := range hopfSums() {
		for _, x := range []impl.Sum{
			one(5, "", 1), one(5, "abab", 1), one(11, "aa", 3), firstOf(7, wordsOfSize(3), 15), firstOf(13, wordsUpTo(3), 20), withEmpty(mixed(13, wordsUpTo(3), 8, 2), 0),
		} {
			sum, isUntouched := sumInRoom(x)
			wantNothingShared(t, name+" of "+spelling(x), func() [][]int64 { return get(sum) }, isUntouched)
		}
	}
}

// TestAnswersOfHopfChangeNothing takes the functions that return a bool as well, and those that fail.
func TestAnswersOfHopfChangeNothing(t *testing.T) {
	for _, p := range []int64{2, 5, 13} {
		for _, x := range append(mixedSums(p, 4), tooLongSums(p)...) {
			sum, isUntouched := sumInRoom(x)
			other, isOtherUntouched := sumInRoom(one(p, "abcabc", 1))
			impl.IsPrimitive(sum)
			impl.CommutatorOf(sum, other)
			impl.CommutatorOf(other, sum)
			for n := int64(-1); n <= 5; n++ {
				for _, get := range dividedCalls(n) {
					get(sum)
				}
			}
			if !isUntouched() || !isOtherUntouched() {
				t.Errorf("a function changes %s or what is behind it", spelling(x))
			}
		}
	}
}

// TestHopfSumsAtTheSameTime divides the same sums at the same time, many times: results do not depend on
// which goroutine is first.
func TestHopfSumsAtTheSameTime(t *testing.T) {
	x := withEmpty(firstOf(11, wordsUpTo(4), 125), 1)
	antipode := sumByDefinition(11, antipodeByDefinition(plainOf(x)))
	part := sumByDefinition(11, primitiveByDefinition(11, plainOf(x)))
	logarithm := logarithmByDefinition(x, 4)
	var callers sync.WaitGroup
	for range 10 {
		callers.Go(func() {
			for range 3 {
				got, code := impl.AntipodeOf(x)
				wantSum(t, "AntipodeOf again", got, code, antipode)
				got, code = impl.PrimitivePart(x)
				wantSum(t, "PrimitivePart again", got, code, part)
				got, code = impl.LogarithmOf(x, 4)
				wantSum(t, "LogarithmOf again", got, code, logarithm)
				got, code = impl.ConvolveAntipode(x)
				wantSum(t, "ConvolveAntipode again", got, code, one(11, "", 1))
				wantGroupLike(t, "again", x, 4, false)
				wantPrimitive(t, "again", part, true)
			}
		})
	}
	callers.Wait()
}

// TestHopfSumsThatShareMemory takes sums whose words lie in one list.
func TestHopfSumsThatShareMemory(t *testing.T) {
	numbers := []int64{0, 1, 0, 1}
	shared := impl.Sum{Prime: 7, Terms: []impl.Term{{Word: numbers[:0], Value: 1}, {Word: numbers, Value: 3}, {Word: []int64{0, 1, 1, 0}, Value: 2}}}
	apart := sumByDefinition(7, plain{"": 1, "abab": 3, "abba": 2})
	got, code := impl.AntipodeOf(shared)
	wantSum(t, "AntipodeOf", got, code, sumByDefinition(7, antipodeByDefinition(plainOf(apart))))
	got, code = impl.CommutatorOf(shared, shared)
	wantSum(t, "CommutatorOf", got, code, impl.Sum{Prime: 7})
	got, code = impl.LogarithmOf(shared, 4)
	wantSum(t, "LogarithmOf", got, code, logarithmByDefinition(apart, 4))
	if !equalSums(shared, apart) || !slices.Equal(numbers, spelt("abab")) {
		t.Errorf("%s is changed", spelling(apart))
	}
}
