package tests

import (
	"slices"
	"sync"
	"testing"

	"loop.example/g01303/impl"
)

// TestWeightsOfNoWords takes lists that are no words, beside lists of chords and kinds that would be
// out of range: ErrInvalid comes first.
func TestWeightsOfNoWords(t *testing.T) {
	for _, bad := range notWords() {
		name := call(" with", bad[:min(len(bad), 20)])
		for _, twisted := range [][]int64{nil, {0}, {1, 0}, {6}, {-1}} {
			wantCode(t, call("CirclesOf", twisted)+name, valueOutcome(impl.CirclesOf(bad, twisted)), impl.ErrInvalid)
		}
		wantCode(t, "GlWeight"+name, listOutcome(impl.GlWeight(bad)), impl.ErrInvalid)
		wantCode(t, "SoWeight"+name, listOutcome(impl.SoWeight(bad)), impl.ErrInvalid)
		wantCode(t, "FreeWeight"+name, listOutcome(impl.FreeWeight(bad)), impl.ErrInvalid)
		wantCode(t, "ConwayWeight"+name, valueOutcome(impl.ConwayWeight(bad)), impl.ErrInvalid)
		wantCode(t, "TwistNumbers"+name, listOutcome(impl.TwistNumbers(bad)), impl.ErrInvalid)
		for _, kind := range slices.Concat(kinds, notKinds) {
			wantCode(t, call("WeightOfKind", kind)+name, listOutcome(impl.WeightOfKind(bad, kind)), impl.ErrInvalid)
		}
		// The lists grow longer: a function that goes on with one of them may take hours over the next.
		if t.Failed() {
			return
		}
	}
}

func TestTwistedChordsOutOfRange(t *testing.T) {
	for _, w := range slices.Concat(wordsUpTo(3), everyOther(wordsUpTo(impl.MaxChords), 503)) {
		n := int64(len(w) / 2)
		for _, wrong := range append([]int64{n, n + 1}, oddNumbers...) {
			for _, list := range [][]int64{{wrong}, {0, wrong}, {wrong, 0}, append(chordsBeside(w, nil), wrong)} {
				wantCode(t, call("CirclesOf", letters(w), list), valueOutcome(impl.CirclesOf(w, list)), impl.ErrRange)
			}
		}
		for i := range n {
			for k := range i + 1 {
				for _, list := range [][]int64{{i, k}, {k, i, i}, {k, k, i}, append(chordsBeside(w, nil), i)} {
					wantCode(t, call("CirclesOf", letters(w), list), valueOutcome(impl.CirclesOf(w, list)), impl.ErrRange)
				}
			}
		}
		wantCode(t, call("CirclesOf", letters(w), "too many"), valueOutcome(impl.CirclesOf(w, make([]int64, 1<<20))), impl.ErrRange)
	}
}

func TestKindsOutOfRange(t *testing.T) {
	for _, kind := range notKinds {
		for _, w := range everyOther(wordsUpTo(impl.MaxChords), 211) {
			wantCode(t, call("WeightOfKind", letters(w), kind), listOutcome(impl.WeightOfKind(w, kind)), impl.ErrRange)
		}
		for _, p := range primes {
			for _, x := range mixedSums(p, impl.MaxChords) {
				wantCode(t, call("WeightOfSum", spelling(x), kind), listOutcome(impl.WeightOfSum(x, kind)), impl.ErrRange)
			}
		}
	}
}

func TestWeightsOfNoSums(t *testing.T) {
	for _, bad := range notSums() {
		for _, kind := range slices.Concat(kinds, notKinds) {
			wantCode(t, call("WeightOfSum with", bad.Prime, len(bad.Terms), kind), listOutcome(impl.WeightOfSum(bad, kind)), impl.ErrInvalid)
		}
		if t.Failed() {
			return
		}
	}
}

// notFactors are numbers next to -1000..1000 and far away from it.
var notFactors = slices.Concat([]int64{1001, -1001, 1002, billion, -billion}, []int64{oddNumbers[0], oddNumbers[1], -1 << 32, 1 << 32, oddNumbers[len(oddNumbers)-1]})

// TestNoPolynomialsAreInvalid takes lists that are no polynomials, beside numbers that would be out
// of range and polynomials whose sum or product would be none.
func TestNoPolynomialsAreInvalid(t *testing.T) {
	for _, bad := range notPolynomials() {
		name := call(" with", bad[:min(len(bad), 50)])
		for _, good := range [][]int64{nil, {1}, {billion}, longest(billion)} {
			for _, k := range slices.Concat(factors, notFactors) {
				wantCode(t, call("AddPolynomials", good, k)+name, listOutcome(impl.AddPolynomials(good, bad, k)), impl.ErrInvalid)
				wantCode(t, call("AddPolynomials first", good, k)+name, listOutcome(impl.AddPolynomials(bad, good, k)), impl.ErrInvalid)
				wantCode(t, call("AddPolynomials both", k)+name, listOutcome(impl.AddPolynomials(bad, bad, k)), impl.ErrInvalid)
			}
			wantCode(t, call("MultiplyPolynomials", good)+name, listOutcome(impl.MultiplyPolynomials(good, bad)), impl.ErrInvalid)
			wantCode(t, call("MultiplyPolynomials first", good)+name, listOutcome(impl.MultiplyPolynomials(bad, good)), impl.ErrInvalid)
		}
		wantCode(t, "MultiplyPolynomials both"+name, listOutcome(impl.MultiplyPolynomials(bad, bad)), impl.ErrInvalid)
		for _, p := range []int64{2, 13, 4, 0, -1} {
			for _, x := range []int64{0, 1, 13, -1} {
				wantCode(t, call("ValueOfPolynomial", x, p)+name, valueOutcome(impl.ValueOfPolynomial(bad, x, p)), impl.ErrInvalid)
			}
		}
		if t.Failed() {
			return
		}
	}
}

// TestFactorsOutOfRange takes sums that would be polynomials, and sums that would be none: ErrRange
// comes ahead of ErrLimit.
func TestFactorsOutOfRange(t *testing.T) {
	for _, k := range notFactors {
		for _, f := range somePolynomials() {
			for _, g := range [][]int64{nil, {1}, {billion}, longest(billion)} {
				wantCode(t, call("AddPolynomials", f, g, k), listOutcome(impl.AddPolynomials(f, g, k)), impl.ErrRange)
			}
		}
	}
	for _, k := range []int64{1000, -1000} {
		sum, code := impl.AddPolynomials([]int64{1}, []int64{0, 1}, k)
		wantWord(t, call("AddPolynomials", k), sum, code, []int64{1, k})
	}
}

func TestValuesOutOfRange(t *testing.T) {
	for _, f := range [][]int64{nil, {1}, {0, -1}, longest(billion)} {
		for _, p := range primes {
			for _, x := range append([]int64{p, p + 1, -p}, oddNumbers...) {
				wantCode(t, call("ValueOfPolynomial", f, x, p), valueOutcome(impl.ValueOfPolynomial(f, x, p)), impl.ErrRange)
			}
		}
		for _, p := range notPrimes {
			for _, x := range []int64{0, 1, 2, -1, p - 1, p} {
				wantCode(t, call("ValueOfPolynomial", f, x, p), valueOutcome(impl.ValueOfPolynomial(f, x, p)), impl.ErrRange)
			}
		}
	}
}

// weightCalls are the calls of words that return lists.
func weightCalls() map[string]func(w []int64) [][]int64 {
	single := func(list []int64, _ int64) [][]int64 { return [][]int64{list} }
	calls := map[string]func(w []int64) [][]int64{
		"GlWeight":     func(w []int64) [][]int64 { return single(impl.GlWeight(w)) },
		"SoWeight":     func(w []int64) [][]int64 { return single(impl.SoWeight(w)) },
		"FreeWeight":   func(w []int64) [][]int64 { return single(impl.FreeWeight(w)) },
		"TwistNumbers": func(w []int64) [][]int64 { return single(impl.TwistNumbers(w)) },
	}
	for _, kind := range kinds {
		calls[call("WeightOfKind", kind)] = func(w []int64) [][]int64 { return single(impl.WeightOfKind(w, kind)) }
	}
	return calls
}

func TestWeightsShareNothing(t *testing.T) {
	for name, get := range weightCalls() {
		for _, text := range []string{"", "aa", "abab", "aabcbc", "abcabc", "abcdefabcdef"} {
			w, isUntouched := inRoom(spelt(text))
			wantNothingShared(t, name+" of "+text, func() [][]int64 { return get(w) }, isUntouched)
		}
	}
	for _, x := range mixedSums(11, impl.MaxChords) {
		for _, kind := range kinds {
			sum, isUntouched := sumInRoom(x)
			wantNothingShared(t, call("WeightOfSum", spelling(x), kind), func() [][]int64 {
				return [][]int64{mustWeighSum(t, sum, kind)}
			}, isUntouched)
		}
	}
}

func TestPolynomialsShareNothing(t *testing.T) {
	short := [][]int64{nil, {1}, {0, -2}, {3, 0, 5}, longest(7)}
	for _, f := range short {
		for _, g := range short {
			a, isFirstUntouched := inRoom(f)
			b, isSecondUntouched := inRoom(g)
			areUntouched := func() bool { return isFirstUntouched() && isSecondUntouched() }
			for _, k := range []int64{0, 1, -2} {
				wantNothingShared(t, call("AddPolynomials", f, g, k), func() [][]int64 {
					sum, _ := impl.AddPolynomials(a, b, k)
					return [][]int64{sum}
				}, areUntouched)
			}
			wantNothingShared(t, call("MultiplyPolynomials", f, g), func() [][]int64 {
				product, _ := impl.MultiplyPolynomials(a, b)
				return [][]int64{product}
			}, areUntouched)
			_, code := impl.ValueOfPolynomial(a, 3, 5)
			if code != impl.ErrNone || !impl.IsPolynomial(a) || !areUntouched() {
				t.Errorf("ValueOfPolynomial or IsPolynomial changes %v or what is behind it", f)
			}
		}
	}
}

// TestNumbersOfWeightsChangeNothing takes the functions that return a number, and those that fail.
func TestNumbersOfWeightsChangeNothing(t *testing.T) {
	for _, w := range wordsUpTo(4) {
		for _, twisted := range [][]int64{nil, chordsBeside(w, nil), {5}} {
			word, isWordUntouched := inRoom(w)
			list, isListUntouched := inRoom(twisted)
			impl.CirclesOf(word, list)
			impl.ConwayWeight(word)
			impl.WeightOfKind(word, 4)
			if !isWordUntouched() || !isListUntouched() {
				t.Errorf("CirclesOf, ConwayWeight or WeightOfKind changes %s, %v or what is behind them", letters(w), twisted)
			}
		}
	}
}

// TestWeightsDoNotDependOnChance calls functions that use goroutines at the same time and many times.
func TestWeightsDoNotDependOnChance(t *testing.T) {
	words := everyOther(wordsOfSize(impl.MaxChords), 1999)
	var callers sync.WaitGroup
	for _, w := range words {
		so, numbers := weightByDefinition(w, 1), make([]int64, impl.MaxChords+2)
		for _, twisted := range choicesOfChords(w) {
			numbers[linesByDefinition(w, twisted)]++
		}
		for range 30 {
			callers.Go(func() {
				weight, code := impl.SoWeight(w)
				wantWord(t, call("SoWeight again", letters(w)), weight, code, so)
				list, code := impl.TwistNumbers(w)
				wantWord(t, call("TwistNumbers again", letters(w)), list, code, numbers)
			})
		}
	}
	callers.Wait()
}
