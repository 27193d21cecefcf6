package tests

import (
	"fmt"
	"slices"
	"strings"
	"sync"
	"testing"

	"loop.example/g01303/impl"
)

// gauss returns the Gauss word with a word, Heads and Signs.
func gauss(word, heads, signs []int64) impl.Gauss {
	return impl.Gauss{Word: word, Heads: heads, Signs: signs}
}

// readGauss returns the Gauss word of a text that is one, without the functions under test.
func readGauss(text string) impl.Gauss {
	var g impl.Gauss
	for place, letter := range []byte(text) {
		switch letter {
		case '+', '-':
			g.Signs = append(g.Signs, map[byte]int64{'+': 1, '-': -1}[letter])
			g.Heads = append(g.Heads, map[byte]int64{'o': 1, 'u': 0}[text[place+1]])
		case 'o', 'u':
		default:
			g.Word = append(g.Word, int64(letter)-'a')
		}
	}
	return g
}

// spellGauss spells a Gauss word without the functions under test, and shows what is none.
func spellGauss(g impl.Gauss) string {
	if !isGaussByDefinition(g) {
		return fmt.Sprintf("%v %v %v", g.Word[:min(len(g.Word), 20)], g.Heads[:min(len(g.Heads), 20)], g.Signs[:min(len(g.Signs), 20)])
	}
	var text strings.Builder
	for place, x := range g.Word {
		text.WriteByte(byte('a' + x))
		if slices.Contains(g.Word[:place], x) {
			continue
		}
		text.WriteByte("-?+"[g.Signs[x]+1])
		text.WriteByte("uo"[g.Heads[x]])
	}
	return text.String()
}

// isGaussByDefinition takes one condition after the other.
func isGaussByDefinition(g impl.Gauss) bool {
	n := len(g.Word) / 2
	if len(g.Word) > 12 || len(g.Word) != 2*n || len(g.Heads) != n || len(g.Signs) != n {
		return false
	}
	for place, x := range g.Word {
		times := 0
		for _, other := range g.Word {
			if other == x {
				times++
			}
		}
		if times != 2 || normalByDefinition(g.Word)[place] != x {
			return false
		}
	}
	for i := range n {
		if g.Heads[i] != 0 && g.Heads[i] != 1 || g.Signs[i] != 1 && g.Signs[i] != -1 {
			return false
		}
	}
	return true
}

// isGaussTextByDefinition reads a text from its beginning to its end.
func isGaussTextByDefinition(text string) bool {
	met, twice := 0, map[byte]bool{}
	for rest := text; rest != ""; {
		number := int(rest[0]) - 'a'
		switch {
		case number == met && met < impl.MaxChords:
			if len(rest) < 3 || !strings.Contains("+-", rest[1:2]) || !strings.Contains("ou", rest[2:3]) {
				return false
			}
			met++
			rest = rest[3:]
		case number >= 0 && number < met && !twice[rest[0]]:
			twice[rest[0]] = true
			rest = rest[1:]
		default:
			return false
		}
	}
	return len(twice) == met
}

// equalGauss reports whether two Gauss words have the same lists.
func equalGauss(g, h impl.Gauss) bool {
	return slices.Equal(g.Word, h.Word) && slices.Equal(g.Heads, h.Heads) && slices.Equal(g.Signs, h.Signs)
}

// copyGauss returns a Gauss word in memory of its own.
func copyGauss(g impl.Gauss) impl.Gauss {
	return gauss(slices.Clone(g.Word), slices.Clone(g.Heads), slices.Clone(g.Signs))
}

// gaussFrom makes the numbers of a list normal; heads and signs tell those of each number.
func gaussFrom(list []int64, heads, signs map[int64]int64) impl.Gauss {
	g := impl.Gauss{Word: normalByDefinition(list)}
	for place, x := range list {
		if slices.Index(list, x) == place {
			g.Heads = append(g.Heads, heads[x])
			g.Signs = append(g.Signs, signs[x])
		}
	}
	return g
}

// tagsOf returns the Head and the Sign of each number.
func tagsOf(g impl.Gauss) (heads, signs map[int64]int64) {
	heads, signs = map[int64]int64{}, map[int64]int64{}
	for i := range g.Heads {
		heads[int64(i)], signs[int64(i)] = g.Heads[i], g.Signs[i]
	}
	return heads, signs
}

// placesByDefinition returns both places of a chord.
func placesByDefinition(g impl.Gauss, i int64) [2]int {
	first := slices.Index(g.Word, i)
	return [2]int{first, first + 1 + slices.Index(g.Word[first+1:], i)}
}

func reversedGauss(g impl.Gauss) impl.Gauss {
	heads, signs := tagsOf(g)
	backward := []int64{}
	for place := len(g.Word) - 1; place >= 0; place-- {
		backward = append(backward, g.Word[place])
	}
	for x, head := range heads {
		heads[x] = 1 - head
	}
	return gaussFrom(backward, heads, signs)
}

func switchedGauss(g impl.Gauss, chords ...int64) impl.Gauss {
	switched := copyGauss(g)
	for _, i := range chords {
		switched.Heads[i], switched.Signs[i] = 1-g.Heads[i], -g.Signs[i]
	}
	return switched
}

// mirroredGauss turns each Head and each Sign, which is what switching each chord does.
func mirroredGauss(g impl.Gauss) impl.Gauss {
	mirrored := impl.Gauss{Word: slices.Clone(g.Word)}
	for i := range g.Heads {
		mirrored.Heads = append(mirrored.Heads, 1-g.Heads[i])
		mirrored.Signs = append(mirrored.Signs, -1*g.Signs[i])
	}
	return mirrored
}

func rotatedGauss(g impl.Gauss, k int) impl.Gauss {
	heads, signs := tagsOf(g)
	for i := range int64(len(g.Heads)) {
		places := placesByDefinition(g, i)
		if (places[0] < k) != (places[1] < k) {
			heads[i] = 1 - heads[i]
		}
	}
	return gaussFrom(slices.Concat(g.Word[k:], g.Word[:k]), heads, signs)
}

// The numbers of chords that moves add, before they are made normal.
const (
	freshPlus  = 100
	freshMinus = 101
)

// insertedGauss goes through the cuts 0..2 n, and puts numbers ahead of those at p and at q.
func insertedGauss(g impl.Gauss, p int, atP []int64, q int, atQ []int64, heads, signs map[int64]int64) impl.Gauss {
	list := []int64{}
	for cut := 0; cut <= len(g.Word); cut++ {
		if cut == p {
			list = append(list, atP...)
		}
		if cut == q {
			list = append(list, atQ...)
		}
		if cut < len(g.Word) {
			list = append(list, g.Word[cut])
		}
	}
	return gaussFrom(list, heads, signs)
}

func kinkedGauss(g impl.Gauss, p int, head, sign int64) impl.Gauss {
	heads, signs := tagsOf(g)
	heads[freshPlus], signs[freshPlus] = head, sign
	return insertedGauss(g, p, []int64{freshPlus}, p, []int64{freshPlus}, heads, signs)
}

func pairedGauss(g impl.Gauss, p, q int, kind, head int64) impl.Gauss {
	heads, signs := tagsOf(g)
	heads[freshPlus], signs[freshPlus] = head, 1
	heads[freshMinus], signs[freshMinus] = head, -1
	atQ := []int64{freshPlus, freshMinus}
	if kind == 1 {
		atQ = []int64{freshMinus, freshPlus}
	}
	return insertedGauss(g, p, []int64{freshPlus, freshMinus}, q, atQ, heads, signs)
}

// gaussWithout takes chords away.
func gaussWithout(g impl.Gauss, chords ...int64) impl.Gauss {
	heads, signs := tagsOf(g)
	left := []int64{}
	for _, x := range g.Word {
		if !slices.Contains(chords, x) {
			left = append(left, x)
		}
	}
	return gaussFrom(left, heads, signs)
}

// isKinkByDefinition reports whether the places of a chord are next to each other.
func isKinkByDefinition(g impl.Gauss, i int64) bool {
	places := placesByDefinition(g, i)
	return places[0]+1 == places[1]
}

// arePairByDefinition reports whether an opposite of a second move takes two different chords away.
func arePairByDefinition(g impl.Gauss, i, k int64) bool {
	a, b := placesByDefinition(g, i), placesByDefinition(g, k)
	areNext := func(x, y int) bool { return x-y == 1 || y-x == 1 }
	return g.Signs[i]+g.Signs[k] == 0 && g.Heads[i] == g.Heads[k] && areNext(a[0], b[0]) && areNext(a[1], b[1])
}

// countByDefinition adds up the products of Signs of all choices of chords with a word and Heads.
func countByDefinition(g impl.Gauss, word, heads []int64) int64 {
	count := int64(0)
	for _, chosen := range choicesOfChords(g.Word) {
		if len(chosen) != len(heads) || !slices.Equal(keptByDefinition(g.Word, chosen), word) {
			continue
		}
		product := int64(1)
		for m, i := range chosen {
			if g.Heads[i] != heads[m] {
				product = 0
			}
			product *= g.Signs[i]
		}
		count += product
	}
	return count
}

// secondByDefinition takes all pairs of chords that cross.
func secondByDefinition(g impl.Gauss) int64 {
	number := int64(0)
	for i := range int64(len(g.Heads)) {
		for k := range int64(len(g.Heads)) {
			a, b := placesByDefinition(g, i), placesByDefinition(g, k)
			if a[0] < b[0] && b[0] < a[1] && a[1] < b[1] && g.Heads[i] == 0 && g.Heads[k] == 1 {
				number += g.Signs[i] * g.Signs[k]
			}
		}
	}
	return number
}

// decorated gives each chord of a word two bits of a number as its Head and its Sign.
func decorated(word []int64, number uint64) impl.Gauss {
	g := impl.Gauss{Word: slices.Clone(word)}
	for range len(word) / 2 {
		g.Heads = append(g.Heads, int64(number&1))
		g.Signs = append(g.Signs, 1-int64(number&2))
		number >>= 2
	}
	return g
}

// mixedNumber returns a number that a seed tells.
func mixedNumber(seed int) uint64 {
	number := (uint64(seed)+1)*6364136223846793005 + 1442695040888963407
	return (number ^ number>>31) * 0x9e3779b97f4a7c15 >> 24
}

// allGaussOfSize lists all Gauss words of n chords.
func allGaussOfSize(n int) []impl.Gauss {
	var list []impl.Gauss
	for _, word := range wordsOfSize(n) {
		for number := range uint64(1) << (2 * n) {
			list = append(list, decorated(word, number))
		}
	}
	return list
}

// smallGauss has all Gauss words of at most 3 chords.
var smallGauss = sync.OnceValue(func() []impl.Gauss {
	return slices.Concat(allGaussOfSize(0), allGaussOfSize(1), allGaussOfSize(2), allGaussOfSize(3))
})

// someGaussOfSize has, for each word of n chords (or one in so many), some Gauss words with it.
func someGaussOfSize(n, each, times int) []impl.Gauss {
	var list []impl.Gauss
	for number, word := range wordsOfSize(n) {
		if number%each != 0 {
			continue
		}
		for seed := range times {
			list = append(list, decorated(word, mixedNumber(number*times+seed)))
		}
	}
	return list
}

// someGauss has all Gauss words of at most 3 chords, and some with each word of 4 and of 5 chords, and
// with one in 7 words of 6.
var someGauss = sync.OnceValue(func() []impl.Gauss {
	return slices.Concat(smallGauss(), someGaussOfSize(4, 1, 12), someGaussOfSize(5, 1, 1), someGaussOfSize(6, 7, 1))
})

// gaussUpTo lists those of someGauss with at most n chords.
func gaussUpTo(n int) []impl.Gauss {
	return slices.DeleteFunc(slices.Clone(someGauss()), func(g impl.Gauss) bool { return len(g.Heads) > n })
}

// wantGauss checks a Gauss word and the code beside it.
func wantGauss(t *testing.T, what string, got impl.Gauss, code int64, want impl.Gauss) {
	t.Helper()
	if code != impl.ErrNone || !equalGauss(got, want) {
		t.Errorf("%s = %s, code %d; want %s, code 0", what, spellGauss(got), code, spellGauss(want))
	}
	if !impl.IsGauss(got) {
		t.Errorf("%s = %s is no Gauss word", what, spellGauss(got))
	}
}

// wantSecond checks the second number of a Gauss word.
func wantSecond(t *testing.T, what string, g impl.Gauss, want int64) {
	t.Helper()
	number, code := impl.SecondNumber(g)
	wantValue(t, what+": SecondNumber of "+spellGauss(g), number, code, want)
}

func gaussOutcome(g impl.Gauss, code int64) outcome {
	return outcome{code, len(g.Word) == 0 && len(g.Heads) == 0 && len(g.Signs) == 0}
}

// gaussInRoom returns a copy of a Gauss word with spare capacity behind each list that is marked, and a
// function that reports whether the lists and the marks are still what they were.
func gaussInRoom(g impl.Gauss) (impl.Gauss, func() bool) {
	word, isWordUntouched := inRoom(g.Word)
	heads, areHeadsUntouched := inRoom(g.Heads)
	signs, areSignsUntouched := inRoom(g.Signs)
	isUntouched := func() bool { return isWordUntouched() && areHeadsUntouched() && areSignsUntouched() }
	return gauss(word, heads, signs), isUntouched
}

// listsOfGauss returns all lists of a Gauss word.
func listsOfGauss(g impl.Gauss, _ int64) [][]int64 { return [][]int64{g.Word, g.Heads, g.Signs} }
