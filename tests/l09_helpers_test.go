package tests

import (
	"slices"
	"testing"

	"loop.example/g01303/impl"
)

// maxPolygon is MaxPolygon of chapter 9 as the document tells it.
const maxPolygon = 12

// mutantKinds are the kinds of mutants, and notMutantKinds numbers next to them and far away from them.
var (
	mutantKinds    = []int64{0, 1, 2}
	notMutantKinds = append([]int64{3, 4, -2}, oddNumbers...)
)

// allArcs lists, in order, the places p <= q <= r <= s of a word.
func allArcs(w []int64) [][]int64 {
	var list [][]int64
	end := int64(len(w))
	for p := range end + 1 {
		for q := range end + 1 {
			for r := range end + 1 {
				for s := range end + 1 {
					if p <= q && q <= r && r <= s {
						list = append(list, []int64{p, q, r, s})
					}
				}
			}
		}
	}
	return list
}

// isShareByDefinition counts how often each number that stands in the arcs stands there.
func isShareByDefinition(w, a []int64) bool {
	inside := slices.Concat(w[a[0]:a[1]], w[a[2]:a[3]])
	for _, x := range inside {
		times := 0
		for _, y := range inside {
			if x == y {
				times++
			}
		}
		if times != 2 {
			return false
		}
	}
	return true
}

// sharesOfAnySize lists, in order, all places whose arcs are a share, with arcs without places and arcs
// with all of them.
func sharesOfAnySize(w []int64) [][]int64 {
	var list [][]int64
	for _, a := range allArcs(w) {
		if isShareByDefinition(w, a) {
			list = append(list, a)
		}
	}
	return list
}

// sharesByDefinition leaves out of all shares those that SharesOf does not list.
func sharesByDefinition(w []int64) [][]int64 {
	return slices.DeleteFunc(sharesOfAnySize(w), func(a []int64) bool {
		return a[0] == a[1] || a[2] == a[3] || a[1]-a[0]+a[3]-a[2] == int64(len(w))
	})
}

// backward returns a list in the reverse order.
func backward(list []int64) []int64 {
	var reversed []int64
	for _, x := range slices.Backward(list) {
		reversed = append(reversed, x)
	}
	return reversed
}

// mutantByDefinition lays the five pieces of a word one behind the other, as the kind tells.
func mutantByDefinition(w, a []int64, kind int64) []int64 {
	ahead, first, between, second, behind := w[:a[0]], w[a[0]:a[1]], w[a[1]:a[2]], w[a[2]:a[3]], w[a[3]:]
	switch kind {
	case 0:
		return normalByDefinition(slices.Concat(ahead, second, between, first, behind))
	case 1:
		return normalByDefinition(slices.Concat(ahead, backward(first), between, backward(second), behind))
	}
	return normalByDefinition(slices.Concat(ahead, backward(second), between, backward(first), behind))
}

// mutate is MutateWord with the places in a list.
func mutate(w, a []int64, kind int64) ([]int64, int64) {
	return impl.MutateWord(w, a[0], a[1], a[2], a[3], kind)
}

// mustMutate is MutateWord where it cannot fail.
func mustMutate(t *testing.T, w, a []int64, kind int64) []int64 {
	t.Helper()
	mutant, code := mutate(w, a, kind)
	if code != impl.ErrNone {
		t.Fatalf("MutateWord(%s, %v, %d): code %d", letters(w), a, kind, code)
	}
	return mutant
}

// ordersByDefinition lists all orders of n chords: the last chord is put at each place of those of the
// other ones.
func ordersByDefinition(n int) [][]int64 {
	if n == 0 {
		return [][]int64{{}}
	}
	var orders [][]int64
	for _, order := range ordersByDefinition(n - 1) {
		for place := range n {
			orders = append(orders, slices.Insert(slices.Clone(order), place, int64(n-1)))
		}
	}
	return orders
}

// crossTable tells for each two chords of a word whether they cross.
func crossTable(w []int64) [][]bool {
	table := make([][]bool, len(w)/2)
	for i := range table {
		table[i] = make([]bool, len(w)/2)
		for k := range table {
			table[i][k] = i != k && crossByDefinition(w, int64(i), int64(k))
		}
	}
	return table
}

// crossingCodeByDefinition returns the least list over some orders of all chords.
func crossingCodeByDefinition(w []int64, orders [][]int64) []int64 {
	table := crossTable(w)
	var lists [][]int64
	for _, order := range orders {
		list := []int64{}
		for i := 1; i < len(order); i++ {
			for k := range i {
				cross := int64(0)
				if table[order[i]][order[k]] {
					cross = 1
				}
				list = append(list, cross)
			}
		}
		lists = append(lists, list)
	}
	return slices.MinFunc(lists, slices.Compare)
}

// areAlikeByDefinition looks for new numbers of the chords of one word that make its crossings those of
// the other one.
func areAlikeByDefinition(a, b []int64) bool {
	if len(a) != len(b) {
		return false
	}
	first, second := crossTable(a), crossTable(b)
	var goOn func(numbers []int) bool
	goOn = func(numbers []int) bool {
		i := len(numbers)
		if i == len(first) {
			return true
		}
		for number := range second {
			isFitting := !slices.Contains(numbers, number)
			for k, other := range numbers {
				isFitting = isFitting && first[i][k] == second[number][other]
			}
			if isFitting && goOn(append(slices.Clone(numbers), number)) {
				return true
			}
		}
		return false
	}
	return goOn(nil)
}

// hasNoCrossingsByDefinition takes each two chords.
func hasNoCrossingsByDefinition(w []int64) bool {
	return !slices.ContainsFunc(degreesByDefinition(w), func(degree int64) bool { return degree > 0 })
}

// curvesByDefinition makes the places of each curve one class, told by the least one that is known of
// it, until nothing changes.
func curvesByDefinition(a, b []int64) int64 {
	class := make([]int, len(a))
	for place := range class {
		class[place] = place
	}
	for isNew := true; isNew; {
		isNew = false
		for _, word := range [][]int64{a, b} {
			for place, x := range word {
				least := min(class[place], class[slices.Index(word, x)])
				other := class[place] + class[slices.Index(word, x)] - least
				isNew = isNew || least != other
				class[place], class[slices.Index(word, x)] = least, least
			}
		}
	}
	slices.Sort(class)
	return int64(len(slices.Compact(class)))
}

// isMeanderByDefinition reports whether two words of equally many chords are a meander.
func isMeanderByDefinition(a, b []int64) bool {
	return hasNoCrossingsByDefinition(a) && hasNoCrossingsByDefinition(b) && curvesByDefinition(a, b) == 1
}

// listsOfDifferent lists all lists of different chords out of n, the longest ones first, and those that
// are equally long in order.
func listsOfDifferent(n int64) [][]int64 {
	lists := [][]int64{{}}
	for at := 0; at < len(lists); at++ {
		for chord := range n {
			if !slices.Contains(lists[at], chord) {
				lists = append(lists, append(slices.Clone(lists[at]), chord))
			}
		}
	}
	slices.SortFunc(lists, func(a, b []int64) int {
		if len(a) != len(b) {
			return len(b) - len(a)
		}
		return slices.Compare(a, b)
	})
	return lists
}

// isChainByDefinition reports whether a list of different chords is a chain.
func isChainByDefinition(table [][]bool, list []int64) bool {
	for i, chord := range list {
		for k, other := range list[:i] {
			if table[chord][other] != (k == i-1) {
				return false
			}
		}
	}
	return true
}

// longestChainByDefinition returns the first chain of the lists of different chords.
func longestChainByDefinition(w []int64, lists [][]int64) []int64 {
	table := crossTable(w)
	first := slices.IndexFunc(lists, func(list []int64) bool { return isChainByDefinition(table, list) })
	return lists[first]
}

// circleWords returns one word of n chords for each circle: the least rotations of all words.
func circleWords(n int) [][]int64 {
	var least [][]int64
	for _, w := range wordsOfSize(n) {
		least = append(least, leastByDefinition(w))
	}
	slices.SortFunc(least, slices.Compare)
	return slices.CompactFunc(least, slices.Equal)
}

// planarWords lists the words of n chords without crossings.
func planarWords(n int) [][]int64 {
	return slices.DeleteFunc(wordsOfSize(n), func(w []int64) bool { return !hasNoCrossingsByDefinition(w) })
}

// wantAlike checks whether two words are alike, in both orders.
func wantAlike(t *testing.T, a, b []int64, want bool) {
	t.Helper()
	alike, code := impl.AreAlike(a, b)
	wantValue(t, call("AreAlike", letters(a), letters(b)), alike, code, want)
	alike, code = impl.AreAlike(b, a)
	wantValue(t, call("AreAlike", letters(b), letters(a)), alike, code, want)
}

// wantCurves checks the curves of two words, and whether they are a meander, in both orders.
func wantCurves(t *testing.T, a, b []int64, curves int64, isMeander bool) {
	t.Helper()
	for _, pair := range [][2][]int64{{a, b}, {b, a}} {
		first, second := letters(pair[0]), letters(pair[1])
		count, code := impl.CountCurves(pair[0], pair[1])
		wantValue(t, call("CountCurves", first, second), count, code, curves)
		yes, code := impl.IsMeander(pair[0], pair[1])
		wantValue(t, call("IsMeander", first, second), yes, code, isMeander)
	}
}

// wantShare checks whether arcs are a share.
func wantShare(t *testing.T, w, a []int64, want bool) {
	t.Helper()
	isShare, code := impl.IsShare(w, a[0], a[1], a[2], a[3])
	wantValue(t, call("IsShare", letters(w), a), isShare, code, want)
}
