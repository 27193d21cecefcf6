package tests

import (
	"runtime"
	"slices"
	"sync"
	"testing"
	"time"

	"loop.example/g01303/impl"
)

// placesOutOfOrder are places in 0..2 n, n at least 1, that are not p <= q <= r <= s.
func placesOutOfOrder(w []int64) [][]int64 {
	end := int64(len(w))
	return [][]int64{
		{1, 0, 1, 1}, {0, 1, 0, 1}, {0, 1, 2, 1}, {0, 0, 1, 0}, {end, 0, 0, end}, {0, end, 0, end}, {0, 0, end, 0}, {0, end, end, 0},
		{end, end, end, end - 1}, {end, end, end - 1, end}, {end, end - 1, end, end}, {1, 1, 1, 0}, {1, 2, 0, 1}, {end, end, 0, 0},
	}
}

// placesOutOfRange puts a number that is no place of a word at each of p, q, r and s, beside places for
// which the order is kept, and beside others.
func placesOutOfRange(w []int64) [][]int64 {
	end := int64(len(w))
	var list [][]int64
	for _, wrong := range append([]int64{end + 1, end + 2, -2}, oddNumbers...) {
		if wrong >= 0 && wrong <= end {
			continue
		}
		for at := range 4 {
			for _, a := range [][]int64{{0, 0, 0, 0}, {0, 0, end, end}, {0, end / 2, end / 2, end}, {end, end, end, end}} {
				list = append(list, withNumber(a, at, wrong))
			}
		}
		list = append(list, []int64{wrong, wrong, wrong, wrong}, []int64{0, 0, wrong, wrong}, []int64{wrong, wrong, end, end})
	}
	return list
}

// TestMutantsOfNoWords takes lists that are no words, beside places and kinds in their range and beyond,
// and beside words of other sizes: ErrInvalid comes first.
func TestMutantsOfNoWords(t *testing.T) {
	for _, bad := range notWords() {
		name := call(" with", bad[:min(len(bad), 20)])
		for _, a := range [][]int64{{0, 0, 0, 0}, {0, 1, 1, 2}, {0, 2, 3, 3}, {2, 1, 0, 0}, {-1, 0, 0, 0}, {0, 0, 0, oddNumbers[len(oddNumbers)-1]}} {
			wantCode(t, call("IsShare", a)+name, valueOutcome(impl.IsShare(bad, a[0], a[1], a[2], a[3])), impl.ErrInvalid)
			for _, kind := range []int64{0, 1, 2, 3, -1} {
				wantCode(t, call("MutateWord", a, kind)+name, listOutcome(mutate(bad, a, kind)), impl.ErrInvalid)
			}
		}
		wantCode(t, "SharesOf"+name, listOutcome(impl.SharesOf(bad)), impl.ErrInvalid)
		wantCode(t, "CrossingCode"+name, listOutcome(impl.CrossingCode(bad)), impl.ErrInvalid)
		wantCode(t, "IsWithoutCrossings"+name, valueOutcome(impl.IsWithoutCrossings(bad)), impl.ErrInvalid)
		wantCode(t, "CrossingDegrees"+name, listOutcome(impl.CrossingDegrees(bad)), impl.ErrInvalid)
		wantCode(t, "LongestChain"+name, listOutcome(impl.LongestChain(bad)), impl.ErrInvalid)
		// The lists grow longer: a function that goes on with one of them may take hours over the next.
		if t.Failed() {
			return
		}
	}
}

// TestNoWordsBesideWords takes lists that are no words as the first, the second, and both of two, beside
// words of equally many chords and of others.
func TestNoWordsBesideWords(t *testing.T) {
	for _, bad := range notWords() {
		name := call(" with", bad[:min(len(bad), 20)])
		for _, good := range [][]int64{nil, spelt("aa"), spelt("abab"), spelt("abcacb"), spelt("abcdefabcdef")} {
			for _, pair := range [][2][]int64{{bad, good}, {good, bad}, {bad, bad}} {
				wantCode(t, "AreAlike"+name, valueOutcome(impl.AreAlike(pair[0], pair[1])), impl.ErrInvalid)
				wantCode(t, "CountCurves"+name, valueOutcome(impl.CountCurves(pair[0], pair[1])), impl.ErrInvalid)
				wantCode(t, "IsMeander"+name, valueOutcome(impl.IsMeander(pair[0], pair[1])), impl.ErrInvalid)
			}
		}
		if t.Failed() {
			return
		}
	}
}

// TestPlacesThatAreNone takes places out of their range, and out of their order, beside kinds that are
// and that are none.
func TestPlacesThatAreNone(t *testing.T) {
	for _, w := range slices.Concat(wordsUpTo(3), everyOther(wordsUpTo(impl.MaxChords), 701)) {
		wrong := placesOutOfRange(w)
		if len(w) > 0 {
			wrong = append(wrong, placesOutOfOrder(w)...)
		}
		for _, a := range wrong {
			wantCode(t, call("IsShare", letters(w), a), valueOutcome(impl.IsShare(w, a[0], a[1], a[2], a[3])), impl.ErrRange)
			for _, kind := range []int64{0, 1, 2, 3, -1} {
				wantCode(t, call("MutateWord", letters(w), a, kind), listOutcome(mutate(w, a, kind)), impl.ErrRange)
			}
		}
	}
}

// TestKindsOfMutantsOutOfRange takes shares, and arcs that are none: ErrRange comes ahead of ErrState.
func TestKindsOfMutantsOutOfRange(t *testing.T) {
	for _, w := range slices.Concat(wordsUpTo(2), everyOther(wordsUpTo(impl.MaxChords), 601)) {
		for _, a := range everyOther(allArcs(w), 1+len(w)) {
			for _, kind := range notMutantKinds {
				wantCode(t, call("MutateWord", letters(w), a, kind), listOutcome(mutate(w, a, kind)), impl.ErrRange)
			}
		}
	}
}

// TestOneChordSplit takes arcs that are a share but for one place.
func TestOneChordSplit(t *testing.T) {
	for _, w := range slices.Concat(wordsUpTo(4), everyOther(wordsOfSize(impl.MaxChords), 97)) {
		for _, a := range sharesByDefinition(w) {
			for at := range 4 {
				for _, place := range []int64{a[at] - 1, a[at] + 1} {
					other := withNumber(a, at, place)
					if place < 0 || place > int64(len(w)) || !slices.IsSorted(other) || isShareByDefinition(w, other) {
						continue
					}
					wantShare(t, w, other, false)
					for _, kind := range mutantKinds {
						wantCode(t, call("MutateWord", letters(w), other, kind), listOutcome(mutate(w, other, kind)), impl.ErrState)
					}
				}
			}
		}
	}
}

func TestCurvesOfWordsOfDifferentSizes(t *testing.T) {
	words := slices.Concat(wordsUpTo(3), everyOther(wordsUpTo(impl.MaxChords), 307), planarWords(4), planarWords(5)[:3], planarWords(impl.MaxChords)[:3])
	for _, a := range words {
		for _, b := range words {
			if len(a) == len(b) {
				continue
			}
			wantCode(t, call("CountCurves", letters(a), letters(b)), valueOutcome(impl.CountCurves(a, b)), impl.ErrRange)
			wantCode(t, call("IsMeander", letters(a), letters(b)), valueOutcome(impl.IsMeander(a, b)), impl.ErrRange)
		}
	}
}

func TestNumbersOfMeandersAndPolygonsOutOfRange(t *testing.T) {
	for _, n := range append([]int64{impl.MaxChords + 1, impl.MaxChords + 2, -2}, oddNumbers...) {
		wantCode(t, call("CountMeanders", n), valueOutcome(impl.CountMeanders(n)), impl.ErrRange)
	}
	for _, n := range append([]int64{maxPolygon + 1, maxPolygon + 2, -2}, oddNumbers...) {
		wantCode(t, call("PolygonNumbers", n), listOutcome(impl.PolygonNumbers(n)), impl.ErrRange)
	}
	if impl.MaxPolygon != maxPolygon {
		t.Errorf("MaxPolygon is %d", impl.MaxPolygon)
	}
}

// mutantCalls are the calls with a word that return lists; those with places take a share of each word.
func mutantCalls() map[string]func(w []int64) [][]int64 {
	single := func(list []int64, _ int64) [][]int64 { return [][]int64{list} }
	calls := map[string]func(w []int64) [][]int64{
		"SharesOf":        func(w []int64) [][]int64 { shares, _ := impl.SharesOf(w); return shares },
		"CrossingCode":    func(w []int64) [][]int64 { return single(impl.CrossingCode(w)) },
		"CrossingDegrees": func(w []int64) [][]int64 { return single(impl.CrossingDegrees(w)) },
		"LongestChain":    func(w []int64) [][]int64 { return single(impl.LongestChain(w)) },
	}
	for _, kind := range mutantKinds {
		calls[call("MutateWord whole", kind)] = func(w []int64) [][]int64 {
			return single(mutate(w, []int64{0, int64(len(w)), int64(len(w)), int64(len(w))}, kind))
		}
		calls[call("MutateWord halves", kind)] = func(w []int64) [][]int64 {
			return single(mutate(w, []int64{0, int64(len(w) / 2), int64(len(w) / 2), int64(len(w))}, kind))
		}
		calls[call("MutateWord nothing", kind)] = func(w []int64) [][]int64 { return single(mutate(w, []int64{0, 0, 0, 0}, kind)) }
	}
	return calls
}

func TestMutantsShareNothing(t *testing.T) {
	for name, get := range mutantCalls() {
		for _, text := range []string{"", "aa", "aabb", "abab", "abcacb", "abacbddc", "aabbccddeeff", "abcdefabcdef", "abacbdcedfef"} {
			w, isUntouched := inRoom(spelt(text))
			wantNothingShared(t, call(name, text), func() [][]int64 { return get(w) }, isUntouched)
		}
	}
	for n := range int64(maxPolygon + 1) {
		polygon := func() [][]int64 { numbers, _ := impl.PolygonNumbers(n); return [][]int64{numbers} }
		wantNothingShared(t, call("PolygonNumbers", n), polygon, func() bool { return true })
	}
}

// TestAnswersOfMutantsChangeNothing takes the functions that return no lists as well, and calls that fail.
func TestAnswersOfMutantsChangeNothing(t *testing.T) {
	for _, text := range []string{"", "aa", "abba", "abab", "abcacb", "aabcddbc", "abcdefabcdef", "abacbdcedfef"} {
		w, isUntouched := inRoom(spelt(text))
		other, isOtherUntouched := inRoom(planarWords(len(w) / 2)[0])
		shorter, isShorterUntouched := inRoom(spelt("aa"))
		for _, b := range [][]int64{other, shorter, w} {
			impl.AreAlike(w, b)
			impl.CountCurves(w, b)
			impl.CountCurves(b, w)
			impl.IsMeander(w, b)
			impl.IsMeander(b, w)
		}
		impl.IsWithoutCrossings(w)
		for _, a := range append(allArcs(w), placesOutOfRange(w)...) {
			impl.IsShare(w, a[0], a[1], a[2], a[3])
			for kind := int64(-1); kind <= 3; kind++ {
				mutate(w, a, kind)
			}
		}
		if !isUntouched() || !isOtherUntouched() || !isShorterUntouched() {
			t.Errorf("a function changes %q, another word, or what is behind it", text)
		}
	}
}

// TestMutantsAtTheSameTime calls the same functions with the same words at the same time: results do not
// depend on which goroutine is first.
func TestMutantsAtTheSameTime(t *testing.T) {
	w, mirrored := spelt("abcacdbefdfe"), reflectedByDefinition(spelt("abcacdbefdfe"))
	crossings := crossingCodeByDefinition(w, ordersByDefinition(impl.MaxChords))
	shares, chain := sharesByDefinition(w), longestChainByDefinition(w, listsOfDifferent(impl.MaxChords))
	var callers sync.WaitGroup
	for range 20 {
		callers.Go(func() {
			for range 5 {
				got, code := impl.CrossingCode(w)
				wantWord(t, "CrossingCode again", got, code, crossings)
				wantAlike(t, w, mirrored, true)
				lists, code := impl.SharesOf(w)
				wantLists(t, "SharesOf again", lists, code, shares)
				got, code = impl.LongestChain(w)
				wantWord(t, "LongestChain again", got, code, chain)
				meanders, code := impl.CountMeanders(3)
				wantValue(t, "CountMeanders again", meanders, code, 8)
			}
		})
	}
	callers.Wait()
}

// TestNoGoroutineIsLeft counts goroutines once all orders of many words have come. The last one may still
// be about to return, so it is given some time.
func TestNoGoroutineIsLeft(t *testing.T) {
	before := runtime.NumGoroutine()
	for _, w := range everyOther(wordsUpTo(impl.MaxChords), 53) {
		impl.CrossingCode(w)
		impl.AreAlike(w, reflectedByDefinition(w))
	}
	for range 1000 {
		if runtime.NumGoroutine() <= before {
			return
		}
		time.Sleep(time.Millisecond)
	}
	t.Errorf("%d goroutines, and %d before", runtime.NumGoroutine(), before)
}
