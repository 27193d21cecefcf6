package tests

import (
	"math"
	"slices"
	"strings"
	"testing"

	"loop.example/g01303/impl"
)

// normalByDefinition counts for each number the other ones whose first places are ahead of its own.
func normalByDefinition(list []int64) []int64 {
	word := make([]int64, len(list))
	for place, x := range list {
		first := slices.Index(list, x)
		for other, y := range list[:first] {
			if slices.Index(list, y) == other {
				word[place]++
			}
		}
	}
	return word
}

// rotatedByDefinition reads the numbers from the place k on, and then those ahead of it.
func rotatedByDefinition(w []int64, k int) []int64 {
	turned := []int64{}
	for place := k; place < len(w); place++ {
		turned = append(turned, w[place])
	}
	for place := 0; place < k; place++ {
		turned = append(turned, w[place])
	}
	return normalByDefinition(turned)
}

func reflectedByDefinition(w []int64) []int64 {
	backward := []int64{}
	for place := len(w) - 1; place >= 0; place-- {
		backward = append(backward, w[place])
	}
	return normalByDefinition(backward)
}

func leastByDefinition(w []int64) []int64 {
	least := w
	for k := range w {
		if rotation := rotatedByDefinition(w, k); slices.Compare(rotation, least) < 0 {
			least = rotation
		}
	}
	return least
}

// crossByDefinition counts the places of the chord k between both places of the chord i.
func crossByDefinition(w []int64, i, k int64) bool {
	inside, between := false, 0
	for _, x := range w {
		if x == i {
			inside = !inside
		}
		if x == k && inside {
			between++
		}
	}
	return between == 1
}

func keptByDefinition(w []int64, kept []int64) []int64 {
	left := []int64{}
	for _, x := range w {
		if slices.Contains(kept, x) {
			left = append(left, x)
		}
	}
	return normalByDefinition(left)
}

// addedByDefinition goes through the cuts 0..2 n, each ahead of the place of its number.
func addedByDefinition(w []int64, p, q int) []int64 {
	const fresh = 100
	longer := []int64{}
	for cut := 0; cut <= len(w); cut++ {
		if cut == p {
			longer = append(longer, fresh)
		}
		if cut == q {
			longer = append(longer, fresh)
		}
		if cut < len(w) {
			longer = append(longer, w[cut])
		}
	}
	return normalByDefinition(longer)
}

// notWords are lists that are no words, of all the kinds that the definition excludes.
func notWords() [][]int64 {
	lists := [][]int64{
		{0}, {1}, {0, 1}, {1, 1}, {-1, -1}, {0, 0, 0}, {0, 0, 0, 0}, {0, 0, 2, 2}, {1, 1, 0, 0},
		{0, 1, 1, 1}, {0, 1, 2, 2, 1, 3}, {0, 2, 1, 0, 1, 2}, {1, 0, 1, 0}, {0, 0, -1, -1},
		{0, 0, 1, 1, 2, 2, 3, 3, 4, 4, 5, 5, 6, 6}, {0, 0, 1, 1, 2, 2, 3, 3, 4, 4, 5, 5, 6},
		{0, 0, 1, 1, 2, 2, 3, 3, 4, 4, 6, 6}, {0, 1, 0, 1, -1, -1}, make([]int64, 100000),
	}
	for _, odd := range oddNumbers {
		lists = append(lists, []int64{odd, odd}, []int64{0, odd}, []int64{0, odd, odd, 0})
	}
	return lists
}

func TestRotationsKeepCrossings(t *testing.T) {
	for _, w := range wordsUpTo(5) {
		rows, _ := impl.CrossingRows(w)
		for k := 0; k <= len(w); k++ {
			turned, code := impl.RotateWord(w, int64(k))
			wantWord(t, call("RotateWord", letters(w), k), turned, code, rotatedByDefinition(w, k))
			turnedRows, _ := impl.CrossingRows(turned)
			for place := range turned {
				for other := range turned {
					here, there := w[(place+k)%len(w)], w[(other+k)%len(w)]
					if turnedRows[turned[place]][turned[other]] != rows[here][there] {
						t.Fatalf("%s rotated by %d: crossings of %d and %d differ", letters(w), k, here, there)
					}
				}
			}
			before, _ := impl.CountCrossings(w)
			after, code := impl.CountCrossings(turned)
			wantValue(t, call("CountCrossings", letters(turned)), after, code, before)
		}
	}
}

func TestRotationsOfTheLongestWords(t *testing.T) {
	for number, w := range wordsOfSize(impl.MaxChords) {
		crossings, _ := impl.CountCrossings(w)
		k := int64(number % (len(w) + 1))
		turned, code := impl.RotateWord(w, k)
		wantWord(t, call("RotateWord", letters(w), k), turned, code, rotatedByDefinition(w, int(k)))
		after, code := impl.CountCrossings(turned)
		wantValue(t, call("CountCrossings", letters(turned)), after, code, crossings)
		back, code := impl.RotateWord(turned, int64(len(w))-k)
		wantWord(t, call("RotateWord", letters(turned), int64(len(w))-k), back, code, w)
	}
}

func TestFullRotationsAndDoubleReflectionsChangeNothing(t *testing.T) {
	for _, w := range wordsUpTo(5) {
		full, code := impl.RotateWord(w, int64(len(w)))
		wantWord(t, call("RotateWord by 2 n", letters(w)), full, code, w)
		none, code := impl.RotateWord(w, 0)
		wantWord(t, call("RotateWord by 0", letters(w)), none, code, w)
		once, code := impl.ReflectWord(w)
		wantWord(t, call("ReflectWord", letters(w)), once, code, reflectedByDefinition(w))
		twice, code := impl.ReflectWord(once)
		wantWord(t, call("ReflectWord twice", letters(w)), twice, code, w)
	}
}

func TestAddedChordsCanBeDeleted(t *testing.T) {
	for _, w := range wordsUpTo(4) {
		for q := 0; q <= len(w); q++ {
			for p := 0; p <= q; p++ {
				longer, code := impl.AddChord(w, int64(p), int64(q))
				wantWord(t, call("AddChord", letters(w), p, q), longer, code, addedByDefinition(w, p, q))
				places, code := impl.PlacesOf(longer, longer[p])
				wantWord(t, call("PlacesOf", letters(longer), longer[p]), places, code, []int64{int64(p), int64(q + 1)})
				back, code := impl.DeleteChord(longer, longer[p])
				wantWord(t, call("DeleteChord", letters(longer), longer[p]), back, code, w)
			}
		}
	}
}

func TestChordsAddedUpToTheLimit(t *testing.T) {
	for _, w := range wordsOfSize(impl.MaxChords - 1) {
		for _, cuts := range [][2]int{{0, 0}, {0, 10}, {10, 10}, {3, 7}} {
			longest, code := impl.AddChord(w, int64(cuts[0]), int64(cuts[1]))
			wantWord(t, call("AddChord", letters(w), cuts), longest, code, addedByDefinition(w, cuts[0], cuts[1]))
			back, code := impl.DeleteChord(longest, longest[cuts[0]])
			wantWord(t, call("DeleteChord", letters(longest), longest[cuts[0]]), back, code, w)
		}
	}
}

func TestWordsComeBackFromTexts(t *testing.T) {
	for _, w := range wordsUpTo(impl.MaxChords) {
		text, code := impl.WordText(w)
		wantValue(t, call("WordText", w), text, code, letters(w))
		back, code := impl.ParseWord(text)
		wantWord(t, call("ParseWord", text), back, code, w)
	}
}

func TestParseWordTakesNothingElse(t *testing.T) {
	bad := []string{
		"a", "ab", "ba", "bb", "aaa", "aaaa", "aab", "aacc", "bbaa", "baba", "AA", "gg", "aA", "a a", " aa", "aa ",
		"aa\n", "``", "00", "\x00\x00", "\xff\xff", "éé", "aabbccddeeffgg", "aabbccddeefg", "aabbccddeegg",
		strings.Repeat("a", 100000), strings.Repeat("ab", 100000),
	}
	for _, text := range bad {
		wantCode(t, call("ParseWord", text[:min(len(text), 20)]), listOutcome(impl.ParseWord(text)), impl.ErrSyntax)
	}
	for size := range 6 {
		for number := range 1 << (2 * size) {
			text := make([]byte, size)
			for place := range text {
				text[place] = 'a' + byte(number>>(2*place)&3)
			}
			word, code := impl.ParseWord(string(text))
			if code == impl.ErrNone && letters(word) != string(text) || (code == impl.ErrNone) != impl.IsWord(spelt(string(text))) {
				t.Errorf("ParseWord(%q) = %v, code %d", text, word, code)
			}
		}
	}
}

func TestIsWordTakesJustTheWords(t *testing.T) {
	counts := []int{1, 1, 3, 15, 105, 945, 10395}
	for n, count := range counts {
		words := wordsOfSize(n)
		if len(words) != count {
			t.Fatalf("%d words of %d chords", len(words), n)
		}
		for _, w := range words {
			if !impl.IsWord(w) {
				t.Errorf("IsWord(%v) = false", w)
			}
		}
	}
	for _, list := range notWords() {
		if impl.IsWord(list) {
			t.Errorf("IsWord(%v) = true", list)
		}
	}
	found := 0
	for number := range 3 * 3 * 3 * 3 * 3 * 3 {
		list := make([]int64, 6)
		for place := range list {
			list[place] = int64(number % 3)
			number /= 3
		}
		if impl.IsWord(list) {
			found++
		}
	}
	if found != 15 {
		t.Errorf("%d lists of 6 numbers are words", found)
	}
}

func TestNormalWordRenumbers(t *testing.T) {
	for _, w := range wordsUpTo(impl.MaxChords) {
		list := make([]int64, len(w))
		for place, x := range w {
			list[place] = []int64{math.MaxInt64, -7, 0, math.MinInt64, 3, 1}[x]
		}
		got, code := impl.NormalWord(list)
		wantWord(t, call("NormalWord", list), got, code, w)
	}
	bad := [][]int64{
		{0}, {5, 3, 5}, {0, 1}, {0, 0, 0, 0}, {0, 0, 1, 1, 1}, {0, 0, 1}, make([]int64, 100000),
		{0, 0, 1, 1, 2, 2, 3, 3, 4, 4, 5, 5, 6, 6},
	}
	for _, list := range bad {
		wantCode(t, call("NormalWord", list[:min(len(list), 20)]), listOutcome(impl.NormalWord(list)), impl.ErrRange)
	}
}

func TestCircles(t *testing.T) {
	for _, w := range wordsUpTo(5) {
		least, code := impl.LeastRotation(w)
		wantWord(t, call("LeastRotation", letters(w)), least, code, leastByDefinition(w))
		yes, code := impl.IsDiagram(w)
		wantValue(t, call("IsDiagram", letters(w)), yes, code, slices.Equal(w, leastByDefinition(w)))
		different := map[string]bool{letters(w): true}
		for k := range w {
			different[letters(rotatedByDefinition(w, k))] = true
		}
		number, code := impl.RotationNumber(w)
		wantValue(t, call("RotationNumber", letters(w)), number, code, int64(len(different)))
	}
	number, code := impl.RotationNumber(nil)
	wantValue(t, "RotationNumber of no chords", number, code, 1)
}

func TestPairsOnTheCircle(t *testing.T) {
	words := wordsUpTo(3)
	for _, a := range words {
		for _, b := range words {
			same, code := impl.AreSameOnCircle(a, b)
			wantValue(t, call("AreSameOnCircle", letters(a), letters(b)), same, code,
				slices.Equal(leastByDefinition(a), leastByDefinition(b)))
			mirrored, code := impl.AreMirrored(a, b)
			wantValue(t, call("AreMirrored", letters(a), letters(b)), mirrored, code,
				slices.Equal(leastByDefinition(a), leastByDefinition(reflectedByDefinition(b))))
		}
	}
}

// TestMirroredWordsThatAreNotTheSame looks for words that tell a reflection from a rotation: there
// are some of four chords.
func TestMirroredWordsThatAreNotTheSame(t *testing.T) {
	found := 0
	for _, w := range wordsOfSize(4) {
		backward := reflectedByDefinition(w)
		mirrored, code := impl.AreMirrored(w, backward)
		wantValue(t, call("AreMirrored", letters(w), letters(backward)), mirrored, code, true)
		same, code := impl.AreSameOnCircle(w, backward)
		itself, _ := impl.AreMirrored(w, w)
		wantValue(t, call("AreMirrored", letters(w), letters(w)), itself, code, same)
		if !same {
			found++
		}
	}
	if found == 0 {
		t.Error("each word of 4 chords is the same as its reflection")
	}
}

func TestChordsOfWords(t *testing.T) {
	for _, w := range wordsUpTo(5) {
		n := int64(len(w) / 2)
		for i := range n {
			places, code := impl.PlacesOf(w, i)
			first := slices.Index(w, i)
			second := first + 1 + slices.Index(w[first+1:], i)
			wantWord(t, call("PlacesOf", letters(w), i), places, code, []int64{int64(first), int64(second)})
		}
		for choice := range 1 << n {
			kept := []int64{}
			for i := range n {
				if choice>>i&1 == 1 {
					kept = append(kept, i)
				}
			}
			got, code := impl.WordOfChords(w, kept)
			wantWord(t, call("WordOfChords", letters(w), kept), got, code, keptByDefinition(w, kept))
		}
	}
}

func TestCrossings(t *testing.T) {
	for _, w := range wordsUpTo(5) {
		n := int64(len(w) / 2)
		rows, code := impl.CrossingRows(w)
		wantValue(t, call("number of CrossingRows", letters(w)), int64(len(rows)), code, n)
		pairs := int64(0)
		for i, row := range rows {
			want := make([]int64, n)
			for k := range n {
				if int64(i) != k && crossByDefinition(w, int64(i), k) {
					want[k] = 1
				}
				if k < int64(i) {
					pairs += want[k]
				}
			}
			wantWord(t, call("row of CrossingRows", letters(w), i), row, code, want)
		}
		number, code := impl.CountCrossings(w)
		wantValue(t, call("CountCrossings", letters(w)), number, code, pairs)
	}
	all, code := impl.CountCrossings(spelt("abcdefabcdef"))
	wantValue(t, "CountCrossings of six chords that all cross", all, code, 15)
}

func TestJoinedWords(t *testing.T) {
	words := wordsUpTo(3)
	for _, a := range words {
		for _, b := range words {
			want := slices.Clone(a)
			for _, x := range b {
				want = append(want, x+int64(len(a)/2))
			}
			joined, code := impl.JoinWords(a, b)
			wantWord(t, call("JoinWords", letters(a), letters(b)), joined, code, want)
		}
	}
	longest := spelt("abcdefabcdef")
	joined, code := impl.JoinWords(longest, nil)
	wantWord(t, "JoinWords of six chords and none", joined, code, longest)
	joined, code = impl.JoinWords(nil, longest)
	wantWord(t, "JoinWords of no chords and six", joined, code, longest)
	wantCode(t, "JoinWords of six chords and one", listOutcome(impl.JoinWords(longest, spelt("aa"))), impl.ErrLimit)
	wantCode(t, "JoinWords of one chord and six", listOutcome(impl.JoinWords(spelt("aa"), longest)), impl.ErrLimit)
}

func TestWordExamples(t *testing.T) {
	normal, code := impl.NormalWord([]int64{5, 3, 5, 3})
	wantWord(t, "NormalWord(5, 3, 5, 3)", normal, code, []int64{0, 1, 0, 1})
	word, code := impl.RotateWord(spelt("abcacb"), 2)
	wantWord(t, "RotateWord(abcacb, 2)", word, code, spelt("abacbc"))
	word, code = impl.AddChord(nil, 0, 0)
	wantWord(t, "AddChord to no chords", word, code, spelt("aa"))
	word, code = impl.AddChord(spelt("aa"), 2, 2)
	wantWord(t, "AddChord(aa, 2, 2)", word, code, spelt("aabb"))
	word, code = impl.AddChord(spelt("aa"), 0, 0)
	wantWord(t, "AddChord(aa, 0, 0)", word, code, spelt("aabb"))
	word, code = impl.AddChord(spelt("aa"), 0, 2)
	wantWord(t, "AddChord(aa, 0, 2)", word, code, spelt("abba"))
	word, code = impl.DeleteChord(spelt("aa"), 0)
	wantWord(t, "DeleteChord(aa, 0)", word, code, nil)
}

// TestNoChords takes the empty word, told by nil and by an empty list with room behind it.
func TestNoChords(t *testing.T) {
	for _, none := range [][]int64{nil, {}, make([]int64, 0, 12)} {
		word, code := impl.NormalWord(none)
		wantWord(t, "NormalWord of nothing", word, code, nil)
		word, code = impl.RotateWord(none, 0)
		wantWord(t, "RotateWord of nothing", word, code, nil)
		word, code = impl.ReflectWord(none)
		wantWord(t, "ReflectWord of nothing", word, code, nil)
		word, code = impl.LeastRotation(none)
		wantWord(t, "LeastRotation of nothing", word, code, nil)
		word, code = impl.JoinWords(none, none)
		wantWord(t, "JoinWords of nothing", word, code, nil)
		word, code = impl.WordOfChords(none, none)
		wantWord(t, "WordOfChords of nothing", word, code, nil)
		rows, code := impl.CrossingRows(none)
		wantValue(t, "CrossingRows of nothing", len(rows), code, 0)
		number, code := impl.CountCrossings(none)
		wantValue(t, "CountCrossings of nothing", number, code, 0)
		number, code = impl.RotationNumber(none)
		wantValue(t, "RotationNumber of nothing", number, code, 1)
		yes, code := impl.IsDiagram(none)
		wantValue(t, "IsDiagram of nothing", yes, code, true)
		yes, code = impl.AreSameOnCircle(none, nil)
		wantValue(t, "AreSameOnCircle of nothing", yes, code, true)
		yes, code = impl.AreMirrored(none, nil)
		wantValue(t, "AreMirrored of nothing", yes, code, true)
		text, code := impl.WordText(none)
		wantValue(t, "WordText of nothing", text, code, "")
		word, code = impl.ParseWord("")
		wantWord(t, "ParseWord of nothing", word, code, nil)
		wantCode(t, "RotateWord of nothing by 1", listOutcome(impl.RotateWord(none, 1)), impl.ErrRange)
		wantCode(t, "DeleteChord of nothing", listOutcome(impl.DeleteChord(none, 0)), impl.ErrRange)
		wantCode(t, "PlacesOf of nothing", listOutcome(impl.PlacesOf(none, 0)), impl.ErrRange)
		wantCode(t, "AddChord to nothing at 1", listOutcome(impl.AddChord(none, 0, 1)), impl.ErrRange)
		wantCode(t, "WordOfChords 0 of nothing", listOutcome(impl.WordOfChords(none, []int64{0})), impl.ErrRange)
	}
}

// TestNoWordsAreInvalid gives each function lists that are no words, and beside them numbers that
// would be out of range and words that would be too long: ErrInvalid comes first.
func TestNoWordsAreInvalid(t *testing.T) {
	longest := spelt("aabbccddeeff")
	for _, bad := range notWords() {
		name := call("with", bad[:min(len(bad), 20)])
		wantCode(t, "RotateWord "+name, listOutcome(impl.RotateWord(bad, 0)), impl.ErrInvalid)
		wantCode(t, "RotateWord -1 "+name, listOutcome(impl.RotateWord(bad, -1)), impl.ErrInvalid)
		wantCode(t, "ReflectWord "+name, listOutcome(impl.ReflectWord(bad)), impl.ErrInvalid)
		wantCode(t, "LeastRotation "+name, listOutcome(impl.LeastRotation(bad)), impl.ErrInvalid)
		wantCode(t, "IsDiagram "+name, valueOutcome(impl.IsDiagram(bad)), impl.ErrInvalid)
		wantCode(t, "RotationNumber "+name, valueOutcome(impl.RotationNumber(bad)), impl.ErrInvalid)
		wantCode(t, "AreSameOnCircle first "+name, valueOutcome(impl.AreSameOnCircle(bad, nil)), impl.ErrInvalid)
		wantCode(t, "AreSameOnCircle second "+name, valueOutcome(impl.AreSameOnCircle(nil, bad)), impl.ErrInvalid)
		wantCode(t, "AreSameOnCircle both "+name, valueOutcome(impl.AreSameOnCircle(bad, bad)), impl.ErrInvalid)
		wantCode(t, "AreMirrored first "+name, valueOutcome(impl.AreMirrored(bad, nil)), impl.ErrInvalid)
		wantCode(t, "AreMirrored second "+name, valueOutcome(impl.AreMirrored(nil, bad)), impl.ErrInvalid)
		wantCode(t, "AreMirrored both "+name, valueOutcome(impl.AreMirrored(bad, bad)), impl.ErrInvalid)
		wantCode(t, "DeleteChord "+name, listOutcome(impl.DeleteChord(bad, 0)), impl.ErrInvalid)
		wantCode(t, "DeleteChord -1 "+name, listOutcome(impl.DeleteChord(bad, -1)), impl.ErrInvalid)
		wantCode(t, "AddChord "+name, listOutcome(impl.AddChord(bad, 0, 0)), impl.ErrInvalid)
		wantCode(t, "AddChord 1, 0 "+name, listOutcome(impl.AddChord(bad, 1, 0)), impl.ErrInvalid)
		wantCode(t, "JoinWords first "+name, listOutcome(impl.JoinWords(bad, longest)), impl.ErrInvalid)
		wantCode(t, "JoinWords second "+name, listOutcome(impl.JoinWords(longest, bad)), impl.ErrInvalid)
		wantCode(t, "WordOfChords "+name, listOutcome(impl.WordOfChords(bad, nil)), impl.ErrInvalid)
		wantCode(t, "WordOfChords -1 "+name, listOutcome(impl.WordOfChords(bad, []int64{-1})), impl.ErrInvalid)
		wantCode(t, "CrossingRows "+name, listOutcome(impl.CrossingRows(bad)), impl.ErrInvalid)
		wantCode(t, "CountCrossings "+name, valueOutcome(impl.CountCrossings(bad)), impl.ErrInvalid)
		wantCode(t, "PlacesOf "+name, listOutcome(impl.PlacesOf(bad, 0)), impl.ErrInvalid)
		wantCode(t, "PlacesOf -1 "+name, listOutcome(impl.PlacesOf(bad, -1)), impl.ErrInvalid)
		wantCode(t, "WordText "+name, valueOutcome(impl.WordText(bad)), impl.ErrInvalid)
	}
}

// TestNumbersOutOfRange takes numbers just behind their ranges and far away from them, for words of
// all sizes. Words of MaxChords chords show that ErrRange comes ahead of ErrLimit.
func TestNumbersOutOfRange(t *testing.T) {
	for _, text := range []string{"", "aa", "abab", "abcacb", "abcdabcd", "aabbccddee", "abcdefabcdef"} {
		w := spelt(text)
		n := int64(len(w) / 2)
		for _, k := range append([]int64{2*n + 1}, oddNumbers...) {
			wantCode(t, call("RotateWord", text, k), listOutcome(impl.RotateWord(w, k)), impl.ErrRange)
			wantCode(t, call("AddChord", text, k, k), listOutcome(impl.AddChord(w, k, k)), impl.ErrRange)
			wantCode(t, call("AddChord", text, 0, k), listOutcome(impl.AddChord(w, 0, k)), impl.ErrRange)
			wantCode(t, call("AddChord", text, k, 2*n), listOutcome(impl.AddChord(w, k, 2*n)), impl.ErrRange)
		}
		for _, i := range append([]int64{n}, oddNumbers...) {
			wantCode(t, call("DeleteChord", text, i), listOutcome(impl.DeleteChord(w, i)), impl.ErrRange)
			wantCode(t, call("PlacesOf", text, i), listOutcome(impl.PlacesOf(w, i)), impl.ErrRange)
			wantCode(t, call("WordOfChords", text, i), listOutcome(impl.WordOfChords(w, []int64{i})), impl.ErrRange)
		}
		for p := range 2*n + 1 {
			for q := range p {
				wantCode(t, call("AddChord", text, p, q), listOutcome(impl.AddChord(w, p, q)), impl.ErrRange)
			}
		}
	}
	for _, w := range [][]int64{spelt("aabbccddeeff"), spelt("abcdefabcdef")} {
		for p := range int64(13) {
			wantCode(t, call("AddChord", letters(w), p, 12), listOutcome(impl.AddChord(w, p, 12)), impl.ErrLimit)
		}
	}
}

func TestListsOfChordsOutOfRange(t *testing.T) {
	bad := [][]int64{
		{0, 0}, {1, 0}, {2, 1, 0}, {0, 1, 1}, {0, 2, 1}, {-1, 0}, {0, 3}, {0, 1, 2, 3}, {3},
		{math.MinInt64, 0}, {0, math.MaxInt64}, make([]int64, 100000),
	}
	for _, chords := range bad {
		what := call("WordOfChords", "abcacb", chords[:min(len(chords), 20)])
		wantCode(t, what, listOutcome(impl.WordOfChords(spelt("abcacb"), chords)), impl.ErrRange)
	}
}

// listCalls are the calls that return a list, each with legal arguments for words of 1 to 3 chords.
func listCalls() map[string]func(w []int64) []int64 {
	first := func(list []int64, _ int64) []int64 { return list }
	return map[string]func(w []int64) []int64{
		"NormalWord":    func(w []int64) []int64 { return first(impl.NormalWord(w)) },
		"RotateWord":    func(w []int64) []int64 { return first(impl.RotateWord(w, 0)) },
		"RotateWord 2n": func(w []int64) []int64 { return first(impl.RotateWord(w, int64(len(w)))) },
		"ReflectWord":   func(w []int64) []int64 { return first(impl.ReflectWord(w)) },
		"LeastRotation": func(w []int64) []int64 { return first(impl.LeastRotation(w)) },
		"DeleteChord":   func(w []int64) []int64 { return first(impl.DeleteChord(w, 0)) },
		"AddChord":      func(w []int64) []int64 { return first(impl.AddChord(w, 0, int64(len(w)))) },
		"JoinWords":     func(w []int64) []int64 { return first(impl.JoinWords(w, w)) },
		"JoinWords nil": func(w []int64) []int64 { return first(impl.JoinWords(w, nil)) },
		"nil JoinWords": func(w []int64) []int64 { return first(impl.JoinWords(nil, w)) },
		"WordOfChords":  func(w []int64) []int64 { return first(impl.WordOfChords(w, []int64{0})) },
		"PlacesOf":      func(w []int64) []int64 { return first(impl.PlacesOf(w, 0)) },
		"CrossingRows": func(w []int64) []int64 {
			rows, _ := impl.CrossingRows(w)
			return rows[0]
		},
	}
}

func TestArgumentsAndResultsShareNothing(t *testing.T) {
	for name, get := range listCalls() {
		for _, w := range wordsUpTo(3)[1:] {
			list, isUntouched := inRoom(w)
			before := slices.Clone(get(list))
			result := get(list)
			if !isUntouched() {
				t.Fatalf("%s of %s changes its argument or what is behind it", name, letters(w))
			}
			spoil(result)
			if !isUntouched() {
				t.Fatalf("%s of %s returns memory of its argument", name, letters(w))
			}
			if !slices.Equal(get(list), before) {
				t.Fatalf("%s of %s keeps its result", name, letters(w))
			}
		}
	}
}

func TestChosenChordsStayAsTheyAre(t *testing.T) {
	chords, isUntouched := inRoom([]int64{1, 2})
	result, code := impl.WordOfChords(spelt("abcacb"), chords)
	wantWord(t, "WordOfChords(abcacb, 1, 2)", result, code, spelt("abba"))
	spoil(result)
	if !isUntouched() {
		t.Error("WordOfChords changes the list of chords or returns its memory")
	}
}

func TestCrossingRowsShareNothing(t *testing.T) {
	rows, _ := impl.CrossingRows(spelt("abcabc"))
	for i := range rows {
		again, _ := impl.CrossingRows(spelt("abcabc"))
		spoil(again[i])
		for k := range again {
			if k != i && !slices.Equal(again[k], rows[k]) {
				t.Errorf("the rows %d and %d share memory", i, k)
			}
		}
	}
}

// TestArgumentsOfAnySize takes lists and texts of a million elements.
func TestArgumentsOfAnySize(t *testing.T) {
	long := make([]int64, 1<<20)
	for place := range long {
		long[place] = int64(place / 2)
	}
	if impl.IsWord(long) {
		t.Error("IsWord takes a list of a million numbers")
	}
	wantCode(t, "NormalWord", listOutcome(impl.NormalWord(long)), impl.ErrRange)
	wantCode(t, "RotateWord", listOutcome(impl.RotateWord(long, 0)), impl.ErrInvalid)
	wantCode(t, "JoinWords", listOutcome(impl.JoinWords(nil, long)), impl.ErrInvalid)
	wantCode(t, "WordOfChords", listOutcome(impl.WordOfChords(spelt("aa"), long)), impl.ErrRange)
	wantCode(t, "ParseWord", listOutcome(impl.ParseWord(strings.Repeat("aa", 1<<20))), impl.ErrSyntax)
}

func TestErrorCodes(t *testing.T) {
	codes := []int64{impl.ErrNone, impl.ErrInvalid, impl.ErrRange, impl.ErrLimit, impl.ErrNotFound, impl.ErrState, impl.ErrSyntax}
	if !slices.Equal(codes, []int64{0, 1, 2, 3, 4, 5, 6}) {
		t.Errorf("the codes are %v", codes)
	}
	if impl.MaxChords != 6 {
		t.Errorf("MaxChords is %d", impl.MaxChords)
	}
}
