package tests

import (
	"math/bits"
	"slices"
	"testing"

	"loop.example/g01303/impl"
)

// maxColours is MaxColours of chapter 10 as the document tells it, and maxInterlaced the greatest absolute
// value of an x at which interlace polynomials have values.
const (
	maxColours    = 8
	maxInterlaced = 100
)

// notColours are numbers next to 0..maxColours and far away from it, and notInterlaced numbers next to
// -maxInterlaced..maxInterlaced and far away from it.
var (
	notColours    = append([]int64{9, 10, -2, -8}, oddNumbers...)
	notInterlaced = []int64{
		101, -101, 102, -102, 1000, -1000, oddNumbers[0], oddNumbers[1], -1 << 32, 1 << 32, oddNumbers[len(oddNumbers)-2], oddNumbers[len(oddNumbers)-1],
	}
)

// complementedByDefinition puts the numbers between both places of a chord into the reverse order, and
// keeps the numbers of the chords.
func complementedByDefinition(w []int64, i int64) []int64 {
	var ahead, between, behind []int64
	met := 0
	for _, x := range w {
		if x == i {
			met++
		}
		switch {
		case met == 2:
			behind = append(behind, x)
		case met == 1 && x != i:
			between = append([]int64{x}, between...)
		default:
			ahead = append(ahead, x)
		}
	}
	return slices.Concat(ahead, between, behind)
}

// pivotedByDefinition lays the places of two chords and the pieces between them one behind the other, and
// keeps the numbers of the chords.
func pivotedByDefinition(w []int64, i, k int64) []int64 {
	pieces := make([][]int64, 5)
	var marks []int64
	for _, x := range w {
		if x == i || x == k {
			marks = append(marks, x)
		} else {
			pieces[len(marks)] = append(pieces[len(marks)], x)
		}
	}
	pivoted := slices.Clone(pieces[0])
	for at, mark := range marks {
		pivoted = append(pivoted, mark)
		pivoted = append(pivoted, pieces[[]int{3, 2, 1, 4}[at]]...)
	}
	return pivoted
}

// numberIn returns which number a chord has in the normal word of a list.
func numberIn(list []int64, chord int64) int64 {
	return normalByDefinition(list)[slices.Index(list, chord)]
}

// mustComplement is LocalComplement where it cannot fail.
func mustComplement(t *testing.T, w []int64, i int64) []int64 {
	t.Helper()
	complement, code := impl.LocalComplement(w, i)
	if code != impl.ErrNone {
		t.Fatalf("LocalComplement(%s, %d): code %d", letters(w), i, code)
	}
	return complement
}

// mustPivot is PivotWord where it cannot fail.
func mustPivot(t *testing.T, w []int64, i, k int64) []int64 {
	t.Helper()
	pivot, code := impl.PivotWord(w, i, k)
	if code != impl.ErrNone {
		t.Fatalf("PivotWord(%s, %d, %d): code %d", letters(w), i, k, code)
	}
	return pivot
}

// mustInterlace is InterlacePolynomial where it cannot fail.
func mustInterlace(t *testing.T, w []int64) []int64 {
	t.Helper()
	polynomial, code := impl.InterlacePolynomial(w)
	if code != impl.ErrNone {
		t.Fatalf("InterlacePolynomial(%s): code %d", letters(w), code)
	}
	return polynomial
}

// crossingPairs lists the pairs of chords that cross, the lesser number first.
func crossingPairs(w []int64) [][2]int64 {
	var pairs [][2]int64
	for i := range int64(len(w) / 2) {
		for k := i + 1; k < int64(len(w)/2); k++ {
			if crossByDefinition(w, i, k) {
				pairs = append(pairs, [2]int64{i, k})
			}
		}
	}
	return pairs
}

// nullitiesByDefinition returns m - r for each set of chords.
func nullitiesByDefinition(w []int64) []int64 {
	var nullities []int64
	for _, chosen := range choicesOfChords(w) {
		nullities = append(nullities, int64(len(chosen))-rankByDefinition(keptByDefinition(w, chosen)))
	}
	return nullities
}

// interlaceByDefinition adds up the powers of x - 1, each of which is one of 1 - x with a sign.
func interlaceByDefinition(w []int64) []int64 {
	polynomial := make([]int64, len(w)/2+1)
	for _, nullity := range nullitiesByDefinition(w) {
		for power, number := range binomial(int(nullity), -1, 1-2*(nullity%2)) {
			polynomial[power] += number
		}
	}
	return polynomial
}

// powerOf multiplies a number with itself.
func powerOf(x, power int64) int64 {
	product := int64(1)
	for range power {
		product *= x
	}
	return product
}

// valueOfNumbers adds up the powers of x times the numbers of a polynomial.
func valueOfNumbers(polynomial []int64, x int64) int64 {
	value := int64(0)
	for power, number := range polynomial {
		value += number * powerOf(x, int64(power))
	}
	return value
}

// setsByDefinition counts the sets of chords any two of which cross, or any two of which do not.
func setsByDefinition(w []int64, doCross bool) []int64 {
	table := crossTable(w)
	numbers := make([]int64, len(table)+1)
	for _, chosen := range choicesOfChords(w) {
		isCounted := true
		for at, i := range chosen {
			for _, k := range chosen[:at] {
				isCounted = isCounted && table[i][k] == doCross
			}
		}
		if isCounted {
			numbers[len(chosen)]++
		}
	}
	return numbers
}

// matchingsByDefinition takes each set of pairs that cross, and counts those in which no chord is twice.
func matchingsByDefinition(w []int64) []int64 {
	pairs := crossingPairs(w)
	numbers := make([]int64, len(w)/4+1)
	for choice := range uint(1) << len(pairs) {
		chords, isTwice := uint(0), false
		for at, pair := range pairs {
			if choice>>at&1 == 1 {
				both := uint(1)<<pair[0] | uint(1)<<pair[1]
				isTwice = isTwice || chords&both != 0
				chords |= both
			}
		}
		if !isTwice {
			numbers[bits.OnesCount(choice)]++
		}
	}
	return numbers
}

// colouringsByDefinition gives each chord each colour that those which cross it and have one do not have.
func colouringsByDefinition(w []int64, k int64) int64 {
	table := crossTable(w)
	colours := make([]int64, len(table))
	var goOn func(chord int) int64
	goOn = func(chord int) int64 {
		if chord == len(table) {
			return 1
		}
		count := int64(0)
		for colour := range k {
			isFree := true
			for other := range chord {
				isFree = isFree && !(table[chord][other] && colours[other] == colour)
			}
			if isFree {
				colours[chord] = colour
				count += goOn(chord + 1)
			}
		}
		return count
	}
	return goOn(0)
}

// colouringByParts takes each set of pairs that cross: with a sign for each pair, the power of the number
// of parts into which the chords fall if just these pairs hold together.
func colouringByParts(w []int64) []int64 {
	n := len(w) / 2
	pairs := crossingPairs(w)
	polynomial := make([]int64, n+1)
	for choice := range uint(1) << len(pairs) {
		class := make([]int64, n)
		for chord := range class {
			class[chord] = int64(chord)
		}
		parts := n
		for at, pair := range pairs {
			first, second := class[pair[0]], class[pair[1]]
			if choice>>at&1 == 0 || first == second {
				continue
			}
			parts--
			for chord := range class {
				if class[chord] == second {
					class[chord] = first
				}
			}
		}
		polynomial[parts] += 1 - 2*int64(bits.OnesCount(choice)%2)
	}
	return polynomial
}

// leastByTrial returns the first number of colours for which there is a colouring.
func leastByTrial(w []int64) int64 {
	for k := int64(0); ; k++ {
		if colouringsByDefinition(w, k) > 0 {
			return k
		}
	}
}

// productOfNumbers multiplies two polynomials.
func productOfNumbers(f, g []int64) []int64 {
	product := make([]int64, len(f)+len(g)-1)
	for i, a := range f {
		for k, b := range g {
			product[i+k] += a * b
		}
	}
	return product
}

// allCrossing returns the word of n chords that all cross.
func allCrossing(n int) []int64 {
	var w []int64
	for place := range 2 * n {
		w = append(w, int64(place%n))
	}
	return w
}

// pairOff returns the word of n chords side by side.
func pairOff(n int) []int64 {
	var w []int64
	for place := range 2 * n {
		w = append(w, int64(place/2))
	}
	return w
}

// wantAlikeGraphs checks whether crossing graphs are isomorphic, in both orders.
func wantAlikeGraphs(t *testing.T, v, w []int64, want bool) {
	t.Helper()
	alike, code := impl.AreAlikeGraphs(v, w)
	wantValue(t, call("AreAlikeGraphs", letters(v), letters(w)), alike, code, want)
	alike, code = impl.AreAlikeGraphs(w, v)
	wantValue(t, call("AreAlikeGraphs", letters(w), letters(v)), alike, code, want)
}

// wantGraphNumbers checks all numbers of a crossing graph, from the interlace polynomial to the matching
// numbers.
func wantGraphNumbers(t *testing.T, w, interlace, independent, cliques, colouring []int64, least int64, matchings []int64) {
	t.Helper()
	name := letters(w)
	got, code := impl.InterlacePolynomial(w)
	wantWord(t, call("InterlacePolynomial", name), got, code, interlace)
	got, code = impl.IndependentNumbers(w)
	wantWord(t, call("IndependentNumbers", name), got, code, independent)
	got, code = impl.CliqueNumbers(w)
	wantWord(t, call("CliqueNumbers", name), got, code, cliques)
	got, code = impl.ColouringPolynomial(w)
	wantWord(t, call("ColouringPolynomial", name), got, code, colouring)
	count, code := impl.LeastColours(w)
	wantValue(t, call("LeastColours", name), count, code, least)
	got, code = impl.MatchingNumbers(w)
	wantWord(t, call("MatchingNumbers", name), got, code, matchings)
	for k := range int64(maxColours + 1) {
		count, code := impl.CountColourings(w, k)
		wantValue(t, call("CountColourings", name, k), count, code, valueOfNumbers(colouring, k))
	}
	for _, x := range []int64{-100, -99, -2, -1, 0, 1, 2, 3, 99, 100} {
		value, code := impl.ValueOfInterlace(w, x)
		wantValue(t, call("ValueOfInterlace", name, x), value, code, valueOfNumbers(interlace, x))
	}
}
