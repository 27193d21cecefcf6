package tests

import (
	"slices"
	"testing"

	"loop.example/g01303/impl"
)

// maxOrder is MaxOrder of chapter 4 as the document tells it.
const maxOrder = 4

// circleList is all diagrams of some number of chords, and the number of the diagram of each word by
// its text.
type circleList struct {
	diagrams [][]int64
	numbers  map[string]int
}

// circleListOf finds the least rotation of each word of n chords.
func circleListOf(n int) circleList {
	list := circleList{diagramsByDefinition(n), map[string]int{}}
	for _, w := range wordsOfSize(n) {
		least := leastByDefinition(w)
		list.numbers[letters(w)] = slices.IndexFunc(list.diagrams, func(diagram []int64) bool { return slices.Equal(diagram, least) })
	}
	return list
}

// circleLists has the list of n chords at n.
var circleLists = func() []circleList {
	var lists []circleList
	for n := range maxOrder + 1 {
		lists = append(lists, circleListOf(n))
	}
	return lists
}()

// fourTermByDefinition adds a chord at x and ahead of both places of the chord i, and takes those
// behind them away.
func fourTermByDefinition(w []int64, i int64, x int) plain {
	sum := plain{}
	for place, chord := range w {
		if chord == i {
			sum[letters(addedByDefinition(w, x, place))]++
			sum[letters(addedByDefinition(w, x, place+1))]--
		}
	}
	return sum
}

// fourTerm is a four-term sum with what leads to it.
type fourTerm struct {
	word []int64
	i    int64
	x    int
	sum  plain
}

// fourTermsOfSize lists all four-term sums of words of n chords.
func fourTermsOfSize(n int) []fourTerm {
	var list []fourTerm
	for _, w := range wordsOfSize(n) {
		for i := range int64(n) {
			for x := range 2*n + 1 {
				list = append(list, fourTerm{w, i, x, fourTermByDefinition(w, i, x)})
			}
		}
	}
	return list
}

// rowByDefinition finds the diagram of each word of n chords.
func rowByDefinition(p int64, n int, x plain) []int64 {
	row := make([]int64, len(circleLists[n].diagrams))
	for text, value := range x {
		if len(text) == 2*n {
			number := circleLists[n].numbers[text]
			row[number] = residue(row[number]+value, p)
		}
	}
	return row
}

// rawRelations lists the rows of all four-term sums that lead to n chords, and those of the diagrams
// with an isolated chord if the relations are free, just as they come.
func rawRelations(p int64, n int, isFree bool) [][]int64 {
	var rows [][]int64
	if n > 0 {
		for _, four := range fourTermsOfSize(n - 1) {
			rows = append(rows, rowByDefinition(p, n, four.sum))
		}
	}
	for _, diagram := range circleLists[n].diagrams {
		if isFree && slices.Contains(degreesByDefinition(diagram), 0) {
			rows = append(rows, rowByDefinition(p, n, plain{letters(diagram): 1}))
		}
	}
	return rows
}

// leadOf returns the place of the first number of a row other than 0, or -1.
func leadOf(row []int64) int {
	return slices.IndexFunc(row, func(x int64) bool { return x != 0 })
}

// timesPlus returns a row and some times another one together.
func timesPlus(p int64, row []int64, times int64, other []int64) []int64 {
	total := slices.Clone(row)
	for place, x := range other {
		total[place] = residue(total[place]+times*x, p)
	}
	return total
}

// takenAway returns a row less multiples of the rows of a reduced list.
func takenAway(p int64, row []int64, list [][]int64) []int64 {
	for _, other := range list {
		row = timesPlus(p, row, -row[leadOf(other)], other)
	}
	return row
}

// scaledToOne returns the multiple of a row with 1 at a place.
func scaledToOne(p int64, row []int64, place int) []int64 {
	zeros := make([]int64, len(row))
	for times := range p {
		if multiple := timesPlus(p, zeros, times, row); multiple[place] == 1 {
			return multiple
		}
	}
	return nil
}

// reducedListByDefinition takes one row after the other into a reduced list.
func reducedListByDefinition(p int64, rows [][]int64) [][]int64 {
	var list [][]int64
	for _, row := range rows {
		row = takenAway(p, row, list)
		lead := leadOf(row)
		if lead < 0 {
			continue
		}
		row = scaledToOne(p, row, lead)
		for k, other := range list {
			list[k] = timesPlus(p, other, -other[lead], row)
		}
		list = append(list, row)
	}
	slices.SortFunc(list, func(a, b []int64) int { return leadOf(a) - leadOf(b) })
	return list
}

// relationKey tells which reduced list is meant.
type relationKey struct {
	p      int64
	n      int
	isFree bool
}

// relationLists has the reduced lists of all relations and free relations.
var relationLists = func() map[relationKey][][]int64 {
	lists := map[relationKey][][]int64{}
	for _, p := range primes {
		for n := range maxOrder + 1 {
			for _, isFree := range []bool{false, true} {
				lists[relationKey{p, n, isFree}] = reducedListByDefinition(p, rawRelations(p, n, isFree))
			}
		}
	}
	return lists
}()

// reducedByDefinition takes the rows of the reduced list of each n away from the row of the part.
func reducedByDefinition(x impl.Sum, isFree bool) impl.Sum {
	reduced := plain{}
	for n := range maxOrder + 1 {
		row := takenAway(x.Prime, rowByDefinition(x.Prime, n, plainOf(x)), relationLists[relationKey{x.Prime, n, isFree}])
		for number, value := range row {
			reduced[letters(circleLists[n].diagrams[number])] = value
		}
	}
	return sumByDefinition(x.Prime, reduced)
}

// productsByDefinition adds up the products of the numbers of two lists.
func productsByDefinition(p int64, list, other []int64) int64 {
	sum := int64(0)
	for place := range list {
		sum += list[place] * other[place]
	}
	return residue(sum, p)
}

// isWeightByDefinition multiplies a list by each relation as it comes.
func isWeightByDefinition(p int64, list []int64, relations [][]int64) bool {
	return !slices.ContainsFunc(relations, func(row []int64) bool { return productsByDefinition(p, list, row) != 0 })
}

// isReducedList reports whether rows are what a reduced list is told by.
func isReducedList(p int64, rows [][]int64) bool {
	before := -1
	for k, row := range rows {
		lead := leadOf(row)
		if lead <= before || row[lead] != 1 {
			return false
		}
		before = lead
		for i, other := range rows {
			if i != k && other[lead] != 0 {
				return false
			}
		}
		if slices.ContainsFunc(row, func(x int64) bool { return x < 0 || x >= p }) {
			return false
		}
	}
	return true
}

// listsOfResidues lists all lists of some numbers modulo p.
func listsOfResidues(p int64, size int) [][]int64 {
	lists := [][]int64{{}}
	for range size {
		var longer [][]int64
		for _, list := range lists {
			for x := range p {
				longer = append(longer, append(slices.Clone(list), x))
			}
		}
		lists = longer
	}
	return lists
}

// mixedList returns a list of numbers modulo p, told by a seed.
func mixedList(p int64, size, seed int) []int64 {
	list := make([]int64, size)
	for place := range list {
		list[place] = int64(seed*(place+3)*(place+seed)+place/2) % p
	}
	return list
}

// someLists are lists of numbers modulo p of many kinds.
func someLists(p int64, size int) [][]int64 {
	lists := [][]int64{make([]int64, size), slices.Repeat([]int64{p - 1}, size)}
	for place := range size {
		one := make([]int64, size)
		one[place] = 1 + int64(place)%(p-1)
		lists = append(lists, one)
	}
	for seed := range 6 {
		lists = append(lists, mixedList(p, size, seed))
	}
	return lists
}

// orderedSums are sums of words of at most MaxOrder chords, with all of these words among them.
func orderedSums(p int64) []impl.Sum {
	words := wordsUpTo(maxOrder)
	all := plain{}
	for _, w := range words {
		all[letters(w)] = p - 1
	}
	return append(mixedSums(p, maxOrder), sumByDefinition(p, all), firstOf(p, words, len(words)), mixed(p, words, 90, 4))
}

// mustReduce is ReduceSum where it cannot fail.
func mustReduce(t *testing.T, x impl.Sum) impl.Sum {
	t.Helper()
	reduced, code := impl.ReduceSum(x)
	if code != impl.ErrNone {
		t.Fatalf("ReduceSum(%s): code %d", spelling(x), code)
	}
	return reduced
}
