package tests

import (
	"slices"
	"testing"

	"loop.example/g01303/impl"
)

// outOfOrder are numbers of chords next to 0..MaxOrder and far away from it.
var outOfOrder = append([]int64{5, 6, 7, -2}, oddNumbers...)

// tooLongSums are sums with at least one word of more than MaxOrder chords.
func tooLongSums(p int64) []impl.Sum {
	return []impl.Sum{
		one(p, "aabbccddee", 1), one(p, "abcdeabcde", p-1), one(p, "abcdefabcdef", 1),
		sumByDefinition(p, plain{"": 1, "aa": p - 1, "abcdabcd": 1, "abcdeedcba": 1}),
		sumByDefinition(p, plain{"abab": 1, "aabbccddeeff": 1}), firstOf(p, wordsOfSize(5), impl.MaxTerms),
		firstOf(p, wordsUpTo(5), 126), firstOf(p, wordsOfSize(6), impl.MaxTerms),
	}
}

func TestMaxOrder(t *testing.T) {
	if impl.MaxOrder != maxOrder {
		t.Errorf("MaxOrder is %d", impl.MaxOrder)
	}
	// Sums of words of MaxOrder chords and of one more.
	for _, p := range primes {
		for _, w := range circleLists[maxOrder].diagrams {
			x := one(p, letters(w), 1)
			if _, code := impl.ReduceSum(x); code != impl.ErrNone {
				t.Errorf("ReduceSum(%s): code %d", spelling(x), code)
			}
			longer := sumByDefinition(p, plain{letters(w): 1, letters(addedByDefinition(w, 0, len(w))): 1})
			wantCode(t, call("ReduceSum", spelling(longer)), sumOutcome(impl.ReduceSum(longer)), impl.ErrRange)
		}
	}
}

// TestFourTermSumsOfNoWords takes lists that are no words, beside primes and numbers that would be
// out of range: ErrInvalid comes first.
func TestFourTermSumsOfNoWords(t *testing.T) {
	for _, bad := range notWords() {
		name := call("with", bad[:min(len(bad), 20)])
		for _, p := range []int64{2, 13, 4, 0, -1} {
			for _, i := range []int64{0, 1, 6, -1} {
				for _, x := range []int64{0, 2, 13, -1} {
					wantCode(t, call("FourTermSum", p, i, x)+name, sumOutcome(impl.FourTermSum(p, bad, i, x)), impl.ErrInvalid)
				}
			}
		}
		// The lists grow longer: a function that goes on with one of them may take hours over the next.
		if t.Failed() {
			return
		}
	}
}

func TestFourTermSumsOutOfRange(t *testing.T) {
	for _, p := range notPrimes {
		for _, text := range []string{"", "aa", "abab", "abcdeabcde", "abcdefabcdef"} {
			for _, i := range []int64{0, -1, 6} {
				for _, x := range []int64{0, 1, -1, 14} {
					wantCode(t, call("FourTermSum", p, text, i, x), sumOutcome(impl.FourTermSum(p, spelt(text), i, x)), impl.ErrRange)
				}
			}
		}
	}
	for number, w := range slices.Concat(wordsUpTo(4), everyOther(wordsOfSize(5), 31)) {
		p, n := primes[number%len(primes)], int64(len(w)/2)
		for x := range 2*n + 1 {
			for _, i := range append([]int64{n, n + 1}, oddNumbers...) {
				wantCode(t, call("FourTermSum", p, letters(w), i, x), sumOutcome(impl.FourTermSum(p, w, i, x)), impl.ErrRange)
			}
		}
		for i := range n {
			for _, x := range append([]int64{2*n + 1, 2*n + 2}, oddNumbers...) {
				wantCode(t, call("FourTermSum", p, letters(w), i, x), sumOutcome(impl.FourTermSum(p, w, i, x)), impl.ErrRange)
			}
		}
	}
}

// TestFourTermSumsOfTheWrongSize takes the empty word, which has no chords, and words of MaxChords
// chords, to which none can be added.
func TestFourTermSumsOfTheWrongSize(t *testing.T) {
	for _, p := range primes {
		for _, none := range [][]int64{nil, {}, make([]int64, 0, 12)} {
			for _, x := range []int64{0, 1, -1} {
				wantCode(t, call("FourTermSum of no chords", p, x), sumOutcome(impl.FourTermSum(p, none, 0, x)), impl.ErrRange)
			}
		}
		for _, w := range everyOther(wordsOfSize(impl.MaxChords), 997) {
			for i := range int64(impl.MaxChords) {
				for x := range int64(2*impl.MaxChords + 1) {
					wantCode(t, call("FourTermSum", p, letters(w), i, x), sumOutcome(impl.FourTermSum(p, w, i, x)), impl.ErrRange)
				}
			}
		}
		longest := spelt("abcdeabcde")
		sum, code := impl.FourTermSum(p, longest, 4, 10)
		wantSum(t, call("FourTermSum", p, "abcdeabcde", 4, 10), sum, code, sumByDefinition(p, fourTermByDefinition(longest, 4, 10)))
	}
}

// wantNoOrder checks that all functions that take a prime and a number of chords refuse them.
func wantNoOrder(t *testing.T, p, n int64) {
	t.Helper()
	wantCode(t, call("RelationRows", p, n), listOutcome(impl.RelationRows(p, n)), impl.ErrRange)
	wantCode(t, call("FreeRelationRows", p, n), listOutcome(impl.FreeRelationRows(p, n)), impl.ErrRange)
	wantCode(t, call("DimensionOf", p, n), valueOutcome(impl.DimensionOf(p, n)), impl.ErrRange)
	wantCode(t, call("FreeDimension", p, n), valueOutcome(impl.FreeDimension(p, n)), impl.ErrRange)
	wantCode(t, call("WeightBasis", p, n), listOutcome(impl.WeightBasis(p, n)), impl.ErrRange)
	for _, list := range [][]int64{nil, {0}, {1}, {0, 0}, make([]int64, 5), make([]int64, 18), make([]int64, 105)} {
		wantCode(t, call("IsWeightSystem", p, n, list), valueOutcome(impl.IsWeightSystem(p, n, list)), impl.ErrRange)
	}
}

func TestRelationsOutOfRange(t *testing.T) {
	for _, p := range primes {
		for _, n := range outOfOrder {
			wantNoOrder(t, p, n)
		}
		// There are dimensions and weight systems of 0, but no relations.
		wantCode(t, call("RelationRows", p, 0), listOutcome(impl.RelationRows(p, 0)), impl.ErrRange)
		wantCode(t, call("FreeRelationRows", p, 0), listOutcome(impl.FreeRelationRows(p, 0)), impl.ErrRange)
	}
	for _, p := range notPrimes {
		for _, n := range append([]int64{0, 1, 2, 3, 4}, outOfOrder...) {
			wantNoOrder(t, p, n)
		}
	}
}

// TestRelationsOfNoSums takes values that are no sums, beside numbers and lists that would be out of
// range, sums of another prime and sums with words that are too long.
func TestRelationsOfNoSums(t *testing.T) {
	others := []impl.Sum{{Prime: 2}, one(13, "abab", 1), one(5, "abcdeabcde", 1)}
	for _, bad := range notSums() {
		name := call("with", bad.Prime, len(bad.Terms))
		wantCode(t, "ReduceSum "+name, sumOutcome(impl.ReduceSum(bad)), impl.ErrInvalid)
		wantCode(t, "ReduceFreely "+name, sumOutcome(impl.ReduceFreely(bad)), impl.ErrInvalid)
		wantCode(t, "AreEqualModulo both "+name, valueOutcome(impl.AreEqualModulo(bad, bad)), impl.ErrInvalid)
		for _, other := range others {
			wantCode(t, "AreEqualModulo first "+name, valueOutcome(impl.AreEqualModulo(bad, other)), impl.ErrInvalid)
			wantCode(t, "AreEqualModulo second "+name, valueOutcome(impl.AreEqualModulo(other, bad)), impl.ErrInvalid)
		}
		for _, n := range []int64{0, 1, 2, 4, 5, -1} {
			wantCode(t, call("DiagramRow", n)+name, listOutcome(impl.DiagramRow(bad, n)), impl.ErrInvalid)
			for _, list := range [][]int64{nil, {1}, {0, 1}, {-1}, {14}} {
				wantCode(t, call("ValueOfWeight", n, list)+name, valueOutcome(impl.ValueOfWeight(n, list, bad)), impl.ErrInvalid)
			}
		}
	}
}

func TestSumsOfDifferentPrimesModuloRelations(t *testing.T) {
	for _, p := range primes {
		for _, q := range primes {
			if p == q {
				continue
			}
			for k, x := range append(tooLongSums(p), impl.Sum{Prime: p}, one(p, "", 1), one(p, "abab", 1)) {
				for i, y := range append(tooLongSums(q), impl.Sum{Prime: q}, one(q, "", 1), one(q, "abab", 1)) {
					wantCode(t, call("AreEqualModulo", p, k, q, i), valueOutcome(impl.AreEqualModulo(x, y)), impl.ErrRange)
				}
			}
		}
	}
}

// TestSumsOfTooManyChords takes sums with words of more than MaxOrder chords, which are refused even
// where just the part of n counts.
func TestSumsOfTooManyChords(t *testing.T) {
	for _, p := range primes {
		for k, long := range tooLongSums(p) {
			wantCode(t, call("ReduceSum", p, k), sumOutcome(impl.ReduceSum(long)), impl.ErrRange)
			wantCode(t, call("ReduceFreely", p, k), sumOutcome(impl.ReduceFreely(long)), impl.ErrRange)
			wantCode(t, call("AreEqualModulo both", p, k), valueOutcome(impl.AreEqualModulo(long, long)), impl.ErrRange)
			for _, other := range []impl.Sum{{Prime: p}, one(p, "abab", 1), one(p, "abcdabcd", 1)} {
				wantCode(t, call("AreEqualModulo first", p, k), valueOutcome(impl.AreEqualModulo(long, other)), impl.ErrRange)
				wantCode(t, call("AreEqualModulo second", p, k), valueOutcome(impl.AreEqualModulo(other, long)), impl.ErrRange)
			}
			for n := range maxOrder + 2 {
				wantCode(t, call("DiagramRow", p, k, n), listOutcome(impl.DiagramRow(long, int64(n))), impl.ErrRange)
				list := make([]int64, len(diagramsByDefinition(min(n, 3))))
				wantCode(t, call("ValueOfWeight", p, k, n), valueOutcome(impl.ValueOfWeight(int64(n), list, long)), impl.ErrRange)
			}
		}
	}
}

func TestDiagramRowsOutOfRange(t *testing.T) {
	for _, p := range primes {
		for _, x := range []impl.Sum{{Prime: p}, one(p, "abcdabcd", 1), one(p, "", 1)} {
			for _, n := range outOfOrder {
				wantCode(t, call("DiagramRow", spelling(x), n), listOutcome(impl.DiagramRow(x, n)), impl.ErrRange)
				for _, size := range []int{0, 1, 2, 5, 18, 105} {
					list := make([]int64, size)
					wantCode(t, call("ValueOfWeight", n, size, spelling(x)), valueOutcome(impl.ValueOfWeight(n, list, x)), impl.ErrRange)
				}
			}
		}
	}
}

// wantNoWeights checks that both functions that take a list of weights refuse it.
func wantNoWeights(t *testing.T, p int64, n int, list []int64) {
	t.Helper()
	shown := list[:min(len(list), 20)]
	wantCode(t, call("IsWeightSystem", p, n, shown), valueOutcome(impl.IsWeightSystem(p, int64(n), list)), impl.ErrRange)
	for _, x := range []impl.Sum{{Prime: p}, one(p, "", 1), one(p, "aa", 1), one(p, "abab", 1), one(p, "abcdabcd", p-1)} {
		wantCode(t, call("ValueOfWeight", n, shown, spelling(x)), valueOutcome(impl.ValueOfWeight(int64(n), list, x)), impl.ErrRange)
	}
}

func TestListsOfWeightsOfTheWrongLength(t *testing.T) {
	for _, p := range primes {
		for n := range maxOrder + 1 {
			size := len(circleLists[n].diagrams)
			for _, wrong := range []int{0, size - 1, size + 1, 2 * size, 1 << 16} {
				wantNoWeights(t, p, n, make([]int64, wrong))
				wantNoWeights(t, p, n, slices.Repeat([]int64{p - 1}, wrong))
			}
			wantNoWeights(t, p, n, nil)
			// Just the length was wrong: zeros are a weight system.
			isSystem, code := impl.IsWeightSystem(p, int64(n), make([]int64, size, size+4))
			wantValue(t, call("IsWeightSystem of zeros", p, n), isSystem, code, true)
		}
	}
}

// TestListsOfWeightsOutOfRange puts one number that is out of range at each place of a list of the
// right length, and numbers at the bounds of the range as well.
func TestListsOfWeightsOutOfRange(t *testing.T) {
	for _, p := range primes {
		for n := range maxOrder + 1 {
			size := len(circleLists[n].diagrams)
			for place := range size {
				for _, wrong := range append([]int64{p, p + 1, -p}, oddNumbers...) {
					list := mixedList(p, size, place)
					list[place] = wrong
					wantNoWeights(t, p, n, list)
				}
				for _, right := range []int64{0, p - 1} {
					list := mixedList(p, size, place)
					list[place] = right
					isSystem, code := impl.IsWeightSystem(p, int64(n), list)
					wantValue(t, call("IsWeightSystem", p, n, list), isSystem, code, isWeightByDefinition(p, list, relationLists[relationKey{p, n, false}]))
				}
			}
		}
	}
}

// relationCalls are the calls that return sums or lists, told by all lists of their results, for
// sums of words of 1 to MaxOrder chords.
func relationCalls() map[string]func(x impl.Sum) [][]int64 {
	first := func(lists [][]int64, _ int64) [][]int64 { return lists }
	single := func(list []int64, _ int64) [][]int64 { return [][]int64{list} }
	terms := func(x impl.Sum, _ int64) [][]int64 {
		lists := listsOf(x)
		clear(x.Terms[:cap(x.Terms)])
		return lists
	}
	sizeOf := func(x impl.Sum) int64 { return int64(len(x.Terms[0].Word) / 2) }
	return map[string]func(x impl.Sum) [][]int64{
		"FourTermSum": func(x impl.Sum) [][]int64 {
			return terms(impl.FourTermSum(x.Prime, x.Terms[0].Word, 0, sizeOf(x)))
		},
		"RelationRows":     func(x impl.Sum) [][]int64 { return first(impl.RelationRows(x.Prime, sizeOf(x))) },
		"FreeRelationRows": func(x impl.Sum) [][]int64 { return first(impl.FreeRelationRows(x.Prime, sizeOf(x))) },
		"WeightBasis":      func(x impl.Sum) [][]int64 { return first(impl.WeightBasis(x.Prime, sizeOf(x))) },
		"ReduceSum":        func(x impl.Sum) [][]int64 { return terms(impl.ReduceSum(x)) },
		"ReduceFreely":     func(x impl.Sum) [][]int64 { return terms(impl.ReduceFreely(x)) },
		"DiagramRow":       func(x impl.Sum) [][]int64 { return single(impl.DiagramRow(x, sizeOf(x))) },
	}
}

func TestRelationsShareNothing(t *testing.T) {
	for name, get := range relationCalls() {
		for _, x := range []impl.Sum{
			one(3, "aa", 2), one(5, "abab", 1), firstOf(7, wordsOfSize(2), 3), mixed(13, wordsOfSize(3), 8, 2),
			mixed(11, wordsOfSize(4), 20, 3), one(2, "abcdabcd", 1),
		} {
			sum, isUntouched := sumInRoom(x)
			wantNothingShared(t, name+" of "+spelling(x), func() [][]int64 { return get(sum) }, isUntouched)
		}
	}
}

// TestAnswersOfRelationsChangeNothing takes the functions that return a bool or a number.
func TestAnswersOfRelationsChangeNothing(t *testing.T) {
	for _, x := range orderedSums(11) {
		sum, isUntouched := sumInRoom(x)
		other, isOtherUntouched := sumInRoom(one(11, "abcdabcd", 3))
		_, code := impl.AreEqualModulo(sum, other)
		wantValue(t, "AreEqualModulo", code, code, impl.ErrNone)
		for n := range maxOrder + 1 {
			list, isListUntouched := inRoom(mixedList(11, len(circleLists[n].diagrams), 3))
			_, code := impl.IsWeightSystem(11, int64(n), list)
			wantValue(t, call("IsWeightSystem", n), code, code, impl.ErrNone)
			_, code = impl.ValueOfWeight(int64(n), list, sum)
			wantValue(t, call("ValueOfWeight", n), code, code, impl.ErrNone)
			if !isListUntouched() {
				t.Errorf("IsWeightSystem or ValueOfWeight changes a list of %d or what is behind it", n)
			}
		}
		if !isUntouched() || !isOtherUntouched() {
			t.Errorf("AreEqualModulo or ValueOfWeight changes %s or what is behind it", spelling(x))
		}
	}
}

// TestReducedSumsDoNotDependOnChance calls functions that gather their Terms many times.
func TestReducedSumsDoNotDependOnChance(t *testing.T) {
	x := mixed(13, wordsUpTo(4), 60, 1)
	reduced := mustReduce(t, x)
	for range 20 {
		wantSum(t, "ReduceSum again", mustReduce(t, x), 0, reduced)
	}
}
