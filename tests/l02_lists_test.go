package tests

import (
	"math"
	"slices"
	"testing"

	"loop.example/g01303/impl"
)

// behindPartner returns the place behind the other place of the chord at a place.
func behindPartner(w []int64, place int) int {
	for other, x := range w {
		if other != place && x == w[place] {
			return (other + 1) % len(w)
		}
	}
	return -1
}

// circlesByDefinition makes the places of each cycle one class, by the least place that is known of
// it, until nothing changes.
func circlesByDefinition(w []int64) int64 {
	if len(w) == 0 {
		return 1
	}
	class := make([]int, len(w))
	for place := range class {
		class[place] = place
	}
	for range w {
		for place := range w {
			next := behindPartner(w, place)
			least := min(class[place], class[next])
			class[place], class[next] = least, least
		}
	}
	slices.Sort(class)
	return int64(len(slices.Compact(class)))
}

// rankByDefinition is the rank of the crossing rows.
func rankByDefinition(w []int64) int64 { return rankWithOnes(w, nil) }

// rankWithOnes puts 1 in the crossing rows of some chords at these chords themselves, and counts the
// sets of rows that add up to zeros modulo 2: with the rank r of n rows there are 2 to the power of
// n - r.
func rankWithOnes(w []int64, ones []int64) int64 {
	n := len(w) / 2
	rows := make([]int, n)
	for i := range rows {
		for k := range n {
			if i != k && crossByDefinition(w, int64(i), int64(k)) || i == k && slices.Contains(ones, int64(i)) {
				rows[i] |= 1 << k
			}
		}
	}
	zeros, rank := 0, int64(n)
	for choice := range 1 << n {
		total := 0
		for i, row := range rows {
			if choice>>i&1 == 1 {
				total ^= row
			}
		}
		if total == 0 {
			zeros++
		}
	}
	for ; zeros > 1; zeros /= 2 {
		rank--
	}
	return rank
}

// degreesByDefinition counts for each chord those that cross it.
func degreesByDefinition(w []int64) []int64 {
	degrees := make([]int64, len(w)/2)
	for i := range degrees {
		for k := range degrees {
			if i != k && crossByDefinition(w, int64(i), int64(k)) {
				degrees[i]++
			}
		}
	}
	return degrees
}

// partsByDefinition goes on joining the classes of chords that cross until nothing changes.
func partsByDefinition(w []int64) [][]int64 {
	n := int64(len(w) / 2)
	class := make([]int64, n)
	for i := range n {
		class[i] = i
	}
	for range n {
		for i := range n {
			for k := range n {
				if i != k && crossByDefinition(w, i, k) {
					class[i] = min(class[i], class[k])
				}
			}
		}
	}
	parts := [][]int64{}
	for least := range n {
		part := []int64{}
		for i := range n {
			if class[i] == least {
				part = append(part, i)
			}
		}
		if len(part) > 0 {
			parts = append(parts, part)
		}
	}
	return parts
}

// blocksByDefinition cuts a word wherever no number stands on both sides.
func blocksByDefinition(w []int64) [][]int64 {
	blocks := [][]int64{}
	start := 0
	for end := 1; end <= len(w); end++ {
		isCut := true
		for _, x := range w[:end] {
			isCut = isCut && !slices.Contains(w[end:], x)
		}
		if isCut {
			blocks = append(blocks, normalByDefinition(w[start:end]))
			start = end
		}
	}
	return blocks
}

// wantLists checks a list of lists and the code beside it.
func wantLists(t *testing.T, what string, got [][]int64, code int64, want [][]int64) {
	t.Helper()
	if code != impl.ErrNone || !slices.EqualFunc(got, want, slices.Equal) {
		t.Errorf("%s = %v, code %d; want %v, code 0", what, got, code, want)
	}
}

// inOrder returns all words of n chords, lexicographically.
func inOrder(n int) [][]int64 {
	words := wordsOfSize(n)
	slices.SortFunc(words, slices.Compare)
	return words
}

// diagramsByDefinition returns all diagrams of n chords, lexicographically.
func diagramsByDefinition(n int) [][]int64 {
	return slices.DeleteFunc(inOrder(n), func(w []int64) bool { return !slices.Equal(w, leastByDefinition(w)) })
}

func TestBorderCirclesAreToldByCrossingRanks(t *testing.T) {
	for _, w := range wordsUpTo(impl.MaxChords) {
		n := int64(len(w) / 2)
		circles, code := impl.BorderCircles(w)
		wantValue(t, call("BorderCircles", letters(w)), circles, code, circlesByDefinition(w))
		rank, code := impl.CrossingRank(w)
		wantValue(t, call("CrossingRank", letters(w)), rank, code, rankByDefinition(w))
		wantValue(t, call("circles and rank", letters(w)), circles+rank, code, n+1)
		genus, code := impl.GenusOf(w)
		wantValue(t, call("twice the genus and circles", letters(w)), 2*genus+circles, code, n+1)
	}
}

// TestGeneraOfAllWords holds the counts of words by genus against the known numbers of gluings of
// polygons.
func TestGeneraOfAllWords(t *testing.T) {
	known := [][]int64{{1}, {1}, {2, 1}, {5, 10}, {14, 70, 21}, {42, 420, 483}, {132, 2310, 6468, 1485}}
	for n, want := range known {
		counts := make([]int64, len(want))
		for _, w := range wordsOfSize(n) {
			genus, code := impl.GenusOf(w)
			if code != impl.ErrNone || genus < 0 || genus >= int64(len(counts)) {
				t.Fatalf("GenusOf(%s) = %d, code %d", letters(w), genus, code)
			}
			counts[genus]++
		}
		if !slices.Equal(counts, want) {
			t.Errorf("words of %d chords by genus: %v, want %v", n, counts, want)
		}
	}
}

func TestBlocksLeadBackToTheWord(t *testing.T) {
	for _, w := range wordsUpTo(impl.MaxChords) {
		blocks, code := impl.BlocksOf(w)
		wantLists(t, call("BlocksOf", letters(w)), blocks, code, blocksByDefinition(w))
		joined := []int64{}
		for _, block := range blocks {
			if len(block) == 0 || !impl.IsWord(block) {
				t.Fatalf("BlocksOf(%s) has the block %v", letters(w), block)
			}
			joined, code = impl.JoinWords(joined, block)
			if code != impl.ErrNone {
				t.Fatalf("JoinWords of the blocks of %s: code %d", letters(w), code)
			}
		}
		wantWord(t, call("joined blocks", letters(w)), joined, code, w)
	}
}

// rotationKeeps checks that a word rotated by k has the genus, the border circles and the crossing
// rank of the word.
func rotationKeeps(t *testing.T, w []int64, k int) {
	t.Helper()
	turned, code := impl.RotateWord(w, int64(k))
	if code != impl.ErrNone {
		t.Fatalf("RotateWord(%s, %d): code %d", letters(w), k, code)
	}
	for name, get := range map[string]func([]int64) (int64, int64){
		"GenusOf": impl.GenusOf, "BorderCircles": impl.BorderCircles, "CrossingRank": impl.CrossingRank,
		"SymmetryNumber": impl.SymmetryNumber,
	} {
		before, code := get(w)
		if code != impl.ErrNone {
			t.Errorf("%s of %s: code %d", name, letters(w), code)
		}
		after, code := get(turned)
		wantValue(t, call(name, letters(turned)), after, code, before)
	}
}

func TestRotationsKeepGenera(t *testing.T) {
	for _, w := range wordsUpTo(5) {
		for k := 0; k <= len(w); k++ {
			rotationKeeps(t, w, k)
		}
	}
	for number, w := range wordsOfSize(impl.MaxChords) {
		rotationKeeps(t, w, 1+number%len(w))
	}
}

func TestPairsCrossAreNestedOrApart(t *testing.T) {
	for _, w := range wordsUpTo(impl.MaxChords) {
		n := int64(len(w) / 2)
		wantNested, wantApart := int64(0), int64(0)
		for k := range n {
			for i := range k {
				end := 1 + slices.Index(w, i) + slices.Index(w[slices.Index(w, i)+1:], i)
				inside := 0
				for _, x := range w[slices.Index(w, i):end] {
					if x == k {
						inside++
					}
				}
				if inside == 2 {
					wantNested++
				}
				if inside == 0 {
					wantApart++
				}
			}
		}
		nested, code := impl.CountNested(w)
		wantValue(t, call("CountNested", letters(w)), nested, code, wantNested)
		apart, code := impl.CountApart(w)
		wantValue(t, call("CountApart", letters(w)), apart, code, wantApart)
		crossings, code := impl.CountCrossings(w)
		wantValue(t, call("pairs of chords", letters(w)), crossings+nested+apart, code, n*(n-1)/2)
	}
}

func TestCountsAndListsOfWords(t *testing.T) {
	for n, want := range []int64{1, 1, 3, 15, 105, 945, 10395} {
		count, code := impl.CountWords(int64(n))
		wantValue(t, call("CountWords", n), count, code, want)
	}
	for n := range impl.MaxListed + 1 {
		words, code := impl.WordsOf(int64(n))
		wantLists(t, call("WordsOf", n), words, code, inOrder(n))
	}
}

func TestPlacesInLists(t *testing.T) {
	for n := range impl.MaxListed + 1 {
		for want, w := range inOrder(n) {
			place, code := impl.PlaceInList(w)
			wantValue(t, call("PlaceInList", letters(w)), place, code, int64(want))
		}
	}
	for _, text := range []string{"aabbccddeeff", "abcdefabcdef", "abcdeffedcba"} {
		wantCode(t, call("PlaceInList", text), valueOutcome(impl.PlaceInList(spelt(text))), impl.ErrRange)
	}
}

func TestListsOfDiagrams(t *testing.T) {
	for n, count := range []int{1, 1, 2, 5, 18, 105} {
		want := diagramsByDefinition(n)
		if len(want) != count {
			t.Fatalf("%d diagrams of %d chords", len(want), n)
		}
		diagrams, code := impl.DiagramsOf(int64(n))
		wantLists(t, call("DiagramsOf", n), diagrams, code, want)
	}
}

func TestSymmetryNumbers(t *testing.T) {
	for _, w := range wordsUpTo(5) {
		want := int64(0)
		for k := range w {
			if slices.Equal(rotatedByDefinition(w, k), w) {
				want++
			}
		}
		number, code := impl.SymmetryNumber(w)
		wantValue(t, call("SymmetryNumber", letters(w)), number, code, max(want, 1))
	}
	for text, want := range map[string]int64{"abcdefabcdef": 12, "aabbccddeeff": 6, "abcdeffedcba": 2, "aabbccddefef": 1} {
		number, code := impl.SymmetryNumber(spelt(text))
		wantValue(t, call("SymmetryNumber", text), number, code, want)
	}
}

func TestPartsAndDegrees(t *testing.T) {
	for _, w := range wordsUpTo(impl.MaxChords) {
		parts, code := impl.PartsOf(w)
		wantLists(t, call("PartsOf", letters(w)), parts, code, partsByDefinition(w))
		want := degreesByDefinition(w)
		degrees, code := impl.DegreesOf(w)
		wantWord(t, call("DegreesOf", letters(w)), degrees, code, want)
		lonely := []int64{}
		for chord, degree := range want {
			if degree == 0 {
				lonely = append(lonely, int64(chord))
			}
		}
		isolated, code := impl.IsolatedChords(w)
		wantWord(t, call("IsolatedChords", letters(w)), isolated, code, lonely)
	}
}

func TestListExamples(t *testing.T) {
	words, code := impl.WordsOf(2)
	wantLists(t, "WordsOf(2)", words, code, [][]int64{{0, 0, 1, 1}, {0, 1, 0, 1}, {0, 1, 1, 0}})
	// The chord e crosses a and b, which makes one part of chords that are not next to each other.
	parts, code := impl.PartsOf(spelt("abccddeabe"))
	wantLists(t, "PartsOf(abccddeabe)", parts, code, [][]int64{{0, 1, 4}, {2}, {3}})
	blocks, code := impl.BlocksOf(spelt("abbacdcdee"))
	wantLists(t, "BlocksOf(abbacdcdee)", blocks, code, [][]int64{spelt("abba"), spelt("abab"), spelt("aa")})
	isolated, code := impl.IsolatedChords(spelt("abcbca"))
	wantWord(t, "IsolatedChords(abcbca)", isolated, code, []int64{0})
	nested, code := impl.CountNested(spelt("abcdeffedcba"))
	wantValue(t, "CountNested of six chords one inside the other", nested, code, 15)
	apart, code := impl.CountApart(spelt("aabbccddeeff"))
	wantValue(t, "CountApart of six chords side by side", apart, code, 15)
	circles, code := impl.BorderCircles(spelt("aabbccddeeff"))
	wantValue(t, "BorderCircles of six chords side by side", circles, code, 7)
	genus, code := impl.GenusOf(spelt("abcdefabcdef"))
	wantValue(t, "GenusOf six chords that all cross", genus, code, 3)
}

// TestListsOfNoChords takes the empty word, told by nil and by an empty list with room behind it.
func TestListsOfNoChords(t *testing.T) {
	for _, none := range [][]int64{nil, {}, make([]int64, 0, 12)} {
		for what, want := range map[string]struct {
			get   func([]int64) (int64, int64)
			value int64
		}{
			"PlaceInList": {impl.PlaceInList, 0}, "SymmetryNumber": {impl.SymmetryNumber, 1},
			"BorderCircles": {impl.BorderCircles, 1}, "GenusOf": {impl.GenusOf, 0},
			"CrossingRank": {impl.CrossingRank, 0}, "CountNested": {impl.CountNested, 0},
			"CountApart": {impl.CountApart, 0},
		} {
			value, code := want.get(none)
			wantValue(t, what+" of no chords", value, code, want.value)
		}
		parts, code := impl.PartsOf(none)
		wantLists(t, "PartsOf no chords", parts, code, nil)
		blocks, code := impl.BlocksOf(none)
		wantLists(t, "BlocksOf no chords", blocks, code, nil)
		degrees, code := impl.DegreesOf(none)
		wantWord(t, "DegreesOf no chords", degrees, code, nil)
		isolated, code := impl.IsolatedChords(none)
		wantWord(t, "IsolatedChords of no chords", isolated, code, nil)
	}
	for what, get := range map[string]func(int64) ([][]int64, int64){"WordsOf": impl.WordsOf, "DiagramsOf": impl.DiagramsOf} {
		list, code := get(0)
		wantLists(t, call(what, 0), list, code, [][]int64{{}})
	}
}

// wantAllInvalid checks that each function of chapter 2 that takes a word refuses a list.
func wantAllInvalid(t *testing.T, name string, bad []int64) {
	t.Helper()
	wantCode(t, "PlaceInList "+name, valueOutcome(impl.PlaceInList(bad)), impl.ErrInvalid)
	wantCode(t, "SymmetryNumber "+name, valueOutcome(impl.SymmetryNumber(bad)), impl.ErrInvalid)
	wantCode(t, "BorderCircles "+name, valueOutcome(impl.BorderCircles(bad)), impl.ErrInvalid)
	wantCode(t, "GenusOf "+name, valueOutcome(impl.GenusOf(bad)), impl.ErrInvalid)
	wantCode(t, "CrossingRank "+name, valueOutcome(impl.CrossingRank(bad)), impl.ErrInvalid)
	wantCode(t, "PartsOf "+name, listOutcome(impl.PartsOf(bad)), impl.ErrInvalid)
	wantCode(t, "BlocksOf "+name, listOutcome(impl.BlocksOf(bad)), impl.ErrInvalid)
	wantCode(t, "DegreesOf "+name, listOutcome(impl.DegreesOf(bad)), impl.ErrInvalid)
	wantCode(t, "IsolatedChords "+name, listOutcome(impl.IsolatedChords(bad)), impl.ErrInvalid)
	wantCode(t, "CountNested "+name, valueOutcome(impl.CountNested(bad)), impl.ErrInvalid)
	wantCode(t, "CountApart "+name, valueOutcome(impl.CountApart(bad)), impl.ErrInvalid)
}

// TestListsOfNoWords takes, among others, lists of more than MaxListed chords that are no words:
// ErrInvalid comes ahead of ErrRange.
func TestListsOfNoWords(t *testing.T) {
	for _, bad := range notWords() {
		wantAllInvalid(t, call("with", bad[:min(len(bad), 20)]), bad)
		// The lists grow longer: a function that goes on with one of them may take hours over the next.
		if t.Failed() {
			return
		}
	}
	long := make([]int64, 1<<20)
	for place := range long {
		long[place] = int64(place / 2)
	}
	wantAllInvalid(t, "with a million numbers", long)
}

func TestSizesOutOfRange(t *testing.T) {
	for _, n := range append([]int64{7, -2}, oddNumbers...) {
		wantCode(t, call("CountWords", n), valueOutcome(impl.CountWords(n)), impl.ErrRange)
	}
	for _, n := range append([]int64{6, 7, math.MaxInt32}, oddNumbers...) {
		wantCode(t, call("WordsOf", n), listOutcome(impl.WordsOf(n)), impl.ErrRange)
		wantCode(t, call("DiagramsOf", n), listOutcome(impl.DiagramsOf(n)), impl.ErrRange)
	}
	if impl.MaxListed != 5 {
		t.Errorf("MaxListed is %d", impl.MaxListed)
	}
}

// listsOfLists are the calls that return lists of lists, for words of at least one chord.
func listsOfLists() map[string]func(w []int64) [][]int64 {
	first := func(lists [][]int64, _ int64) [][]int64 { return lists }
	return map[string]func(w []int64) [][]int64{
		"WordsOf":    func(w []int64) [][]int64 { return first(impl.WordsOf(int64(len(w) / 2))) },
		"DiagramsOf": func(w []int64) [][]int64 { return first(impl.DiagramsOf(int64(len(w) / 2))) },
		"PartsOf":    func(w []int64) [][]int64 { return first(impl.PartsOf(w)) },
		"BlocksOf":   func(w []int64) [][]int64 { return first(impl.BlocksOf(w)) },
		"DegreesOf": func(w []int64) [][]int64 {
			degrees, _ := impl.DegreesOf(w)
			return [][]int64{degrees}
		},
		"IsolatedChords": func(w []int64) [][]int64 {
			isolated, _ := impl.IsolatedChords(w)
			return [][]int64{isolated}
		},
	}
}

func TestListsShareNothing(t *testing.T) {
	for name, get := range listsOfLists() {
		for _, w := range wordsUpTo(4)[1:] {
			list, isUntouched := inRoom(w)
			wantNothingShared(t, name+" of "+letters(w), func() [][]int64 { return get(list) }, isUntouched)
		}
	}
}

// TestNumbersOfWordsChangeNothing takes the functions that return a number.
func TestNumbersOfWordsChangeNothing(t *testing.T) {
	for _, w := range wordsUpTo(4) {
		list, isUntouched := inRoom(w)
		for _, get := range []func([]int64) (int64, int64){
			impl.PlaceInList, impl.SymmetryNumber, impl.BorderCircles, impl.GenusOf, impl.CrossingRank,
			impl.CountNested, impl.CountApart,
		} {
			before, _ := get(list)
			after, code := get(list)
			wantValue(t, call("number", letters(w)), after, code, before)
		}
		if !isUntouched() {
			t.Fatalf("a number of %s changes the word or what is behind it", letters(w))
		}
	}
}
