package tests

import (
	"math/big"
	"slices"
	"testing"

	"loop.example/g01303/impl"
)

// maxPower is MaxPower of chapter 5 as the document tells it, and billion the greatest absolute value
// of a number of a polynomial.
const (
	maxPower = 40
	billion  = 1000000000
)

// kinds are the kinds of weights.
var kinds = []int64{0, 1, 2, 3}

// notKinds are numbers next to kinds and far away from them.
var notKinds = append([]int64{4, 5, 6, -2}, oddNumbers...)

// joinsByDefinition lists which points of a word are joined: the point ahead of a place has its
// number, the one behind it is len(w) further.
func joinsByDefinition(w []int64, twisted []int64) [][2]int {
	var joins [][2]int
	for a, chord := range w {
		joins = append(joins, [2]int{a + len(w), (a + 1) % len(w)})
		b := a + 1 + slices.Index(w[a+1:], chord)
		switch {
		case b == a:
			// This is the second place of its chord: the first one has joined them.
		case slices.Contains(twisted, chord):
			joins = append(joins, [2]int{a, b}, [2]int{a + len(w), b + len(w)})
		default:
			joins = append(joins, [2]int{a, b + len(w)}, [2]int{a + len(w), b})
		}
	}
	return joins
}

// linesByDefinition makes the points of each closed line one class, told by the least one that is
// known of it, until nothing changes.
func linesByDefinition(w []int64, twisted []int64) int64 {
	if len(w) == 0 {
		return 1
	}
	class := make([]int, 2*len(w))
	for point := range class {
		class[point] = point
	}
	joins := joinsByDefinition(w, twisted)
	for isNew := true; isNew; {
		isNew = false
		for _, join := range joins {
			a, b := class[join[0]], class[join[1]]
			isNew = isNew || a != b
			class[join[0]], class[join[1]] = min(a, b), min(a, b)
		}
	}
	slices.Sort(class)
	return int64(len(slices.Compact(class)))
}

// choicesOfChords lists all ascending lists of different chords of a word.
func choicesOfChords(w []int64) [][]int64 {
	choices := [][]int64{{}}
	for chord := range int64(len(w) / 2) {
		for _, choice := range choices {
			choices = append(choices, append(slices.Clone(choice), chord))
		}
	}
	return choices
}

// chordsBeside returns the chords of a word that are not chosen.
func chordsBeside(w []int64, chosen []int64) []int64 {
	var others []int64
	for chord := range int64(len(w) / 2) {
		if !slices.Contains(chosen, chord) {
			others = append(others, chord)
		}
	}
	return others
}

// signed returns -1 to the power of how many chords there are.
func signed(chords []int64) int64 {
	if len(chords)%2 == 1 {
		return -1
	}
	return 1
}

// cut returns a list without the zeros at its end.
func cut(f []int64) []int64 {
	end := 0
	for power, number := range f {
		if number != 0 {
			end = power + 1
		}
	}
	return f[:end]
}

// weightByDefinition adds up what the kind has for each choice of chords.
func weightByDefinition(w []int64, kind int64) []int64 {
	weight := make([]int64, maxPower+1)
	switch kind {
	case 0:
		weight[linesByDefinition(w, nil)] = 1
	case 1:
		for _, twisted := range choicesOfChords(w) {
			weight[linesByDefinition(w, twisted)] += signed(twisted)
		}
	case 2:
		for _, chosen := range choicesOfChords(w) {
			others := keptByDefinition(w, chordsBeside(w, chosen))
			weight[int64(len(chosen))+linesByDefinition(others, nil)-1] += signed(chosen)
		}
	case 3:
		if linesByDefinition(w, nil) == 1 {
			weight[0] = 1
		}
	}
	return cut(weight)
}

// weightOfSumByDefinition adds up the weights of the words, each times its Value.
func weightOfSumByDefinition(x impl.Sum, kind int64) []int64 {
	weight := make([]int64, maxPower+1)
	for _, term := range x.Terms {
		for power, number := range weightByDefinition(term.Word, kind) {
			weight[power] = residue(weight[power]+term.Value*number, x.Prime)
		}
	}
	return cut(weight)
}

// mustWeigh is WeightOfKind where it cannot fail.
func mustWeigh(t *testing.T, w []int64, kind int64) []int64 {
	t.Helper()
	weight, code := impl.WeightOfKind(w, kind)
	if code != impl.ErrNone {
		t.Fatalf("WeightOfKind(%s, %d): code %d", letters(w), kind, code)
	}
	return weight
}

// mustWeighSum is WeightOfSum where it cannot fail.
func mustWeighSum(t *testing.T, x impl.Sum, kind int64) []int64 {
	t.Helper()
	weight, code := impl.WeightOfSum(x, kind)
	if code != impl.ErrNone {
		t.Fatalf("WeightOfSum(%s, %d): code %d", spelling(x), kind, code)
	}
	return weight
}

// wide is a polynomial with numbers of any size, from that at N^0 on. The tests reckon with it, so
// that nothing overflows.
type wide []*big.Int

// wideOf returns zeros, as many as told.
func wideOf(size int) wide {
	f := make(wide, size)
	for power := range f {
		f[power] = new(big.Int)
	}
	return f
}

// sumByNumbers returns f and k times g together.
func sumByNumbers(f, g []int64, k int64) wide {
	sum := wideOf(max(len(f), len(g)))
	for power, number := range f {
		sum[power].Add(sum[power], big.NewInt(number))
	}
	for power, number := range g {
		sum[power].Add(sum[power], new(big.Int).Mul(big.NewInt(k), big.NewInt(number)))
	}
	return sum
}

// productByNumbers multiplies each number of f by each one of g.
func productByNumbers(f, g []int64) wide {
	product := wideOf(len(f) + len(g))
	for i, a := range f {
		for k, b := range g {
			product[i+k].Add(product[i+k], new(big.Int).Mul(big.NewInt(a), big.NewInt(b)))
		}
	}
	return product
}

// polynomial returns a wide one as a polynomial, and whether it is one.
func (f wide) polynomial() ([]int64, bool) {
	var list []int64
	for _, number := range f {
		if number.CmpAbs(big.NewInt(billion)) > 0 {
			return nil, false
		}
		list = append(list, number.Int64())
	}
	list = cut(list)
	return list, len(list) <= maxPower+1
}

// wantPolynomial checks a polynomial and the code beside it: ErrLimit if what is wanted is none.
func wantPolynomial(t *testing.T, what string, got []int64, code int64, want wide) {
	t.Helper()
	list, isOne := want.polynomial()
	if !isOne {
		wantCode(t, what, listOutcome(got, code), impl.ErrLimit)
		return
	}
	wantWord(t, what, got, code, list)
}

// longest returns the polynomial with the most numbers, all of them the same one other than 0.
func longest(number int64) []int64 { return slices.Repeat([]int64{number}, maxPower+1) }

// monomial returns the polynomial with a number other than 0 at a power, and zeros below.
func monomial(number int64, power int) []int64 { return append(make([]int64, power), number) }

// binomial returns the power of 1 + sign N, times a number.
func binomial(power int, sign, times int64) []int64 {
	f := []int64{times}
	for range power {
		next := make([]int64, len(f)+1)
		for place, number := range f {
			next[place] += number
			next[place+1] += sign * number
		}
		f = next
	}
	return f
}

// somePolynomials are polynomials of many kinds: short and long ones, those that just fit, and those
// whose numbers alternate.
func somePolynomials() [][]int64 {
	list := [][]int64{
		nil, {}, {1}, {-1}, {2, -3}, {0, 1}, {0, 0, -5}, {billion}, {-billion}, {billion - 1}, {1, billion}, {-billion, 0, 7},
		{31622}, {31623}, {-31623, 31622}, {1001}, {999001}, {-999001, 1}, {500000000}, {-500000000, 500000000}, {2}, {0, 3},
		longest(1), longest(-1), longest(billion), longest(-billion), monomial(1, maxPower), monomial(-billion, maxPower),
		monomial(7, maxPower-1), monomial(1, 20), monomial(-2, 21), longest(1)[:20], longest(-1)[:21], longest(billion)[:21],
		binomial(20, 1, 1), binomial(20, -1, 1), binomial(20, 1, 5000), binomial(20, -1, -5412), binomial(19, 1, 5413),
	}
	for seed := range 12 {
		f := make([]int64, 1+seed*3)
		for power := range f {
			f[power] = int64((seed+2)*(power+1)*7919%2003 - 1001)
		}
		list = append(list, cut(f))
	}
	return list
}

// notPolynomials are lists that are no polynomials, of all the kinds that the definition excludes.
func notPolynomials() [][]int64 {
	lists := [][]int64{
		{0}, {0, 0}, {1, 0}, {-billion, 0}, {1, 0, 2, 0}, append(longest(1), 1), append(longest(0), 1), append(longest(1), 0), longest(0),
		append(longest(1)[:maxPower], 0), make([]int64, 1<<20), slices.Repeat([]int64{1}, 1<<20), append(longest(billion), -billion),
	}
	for _, wrong := range []int64{billion + 1, -billion - 1, billion << 32, oddNumbers[0], oddNumbers[1], -1 << 32, 1 << 32, oddNumbers[len(oddNumbers)-1]} {
		lists = append(lists, []int64{wrong}, []int64{wrong, 1}, []int64{1, wrong}, []int64{3, wrong, -1}, monomial(wrong, maxPower))
	}
	return lists
}
