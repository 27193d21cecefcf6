package tests

import (
	"fmt"
	"math"
	"slices"
	"strings"
	"testing"

	"loop.example/g01303/impl"
)

// oddNumbers are numbers that no list of a word and no place of a word reaches.
var oddNumbers = []int64{math.MinInt64, math.MinInt64 + 1, -1 << 32, -13, -1, 14, 1 << 32, math.MaxInt64 - 1, math.MaxInt64}

// wordsOfSize lists all words of n chords. It pairs the first free place with each later free one,
// so it owes nothing to the functions under test.
func wordsOfSize(n int) [][]int64 {
	var words [][]int64
	word := make([]int64, 2*n)
	for place := range word {
		word[place] = -1
	}
	var fill func(chord int64)
	fill = func(chord int64) {
		first := slices.Index(word, -1)
		if first < 0 {
			words = append(words, slices.Clone(word))
			return
		}
		for second := first + 1; second < len(word); second++ {
			if word[second] >= 0 {
				continue
			}
			word[first], word[second] = chord, chord
			fill(chord + 1)
			word[first], word[second] = -1, -1
		}
	}
	fill(0)
	return words
}

// wordsUpTo lists all words of at most n chords.
func wordsUpTo(n int) [][]int64 {
	var words [][]int64
	for size := 0; size <= n; size++ {
		words = append(words, wordsOfSize(size)...)
	}
	return words
}

// letters spells a word without the functions under test.
func letters(w []int64) string {
	var text strings.Builder
	for _, x := range w {
		text.WriteByte(byte('a' + x))
	}
	return text.String()
}

// spelt returns the word of a text without the functions under test.
func spelt(text string) []int64 {
	word := []int64{}
	for _, letter := range []byte(text) {
		word = append(word, int64(letter)-'a')
	}
	return word
}

// everyOther chooses one element of a list out of as many as step tells.
func everyOther[T any](list []T, step int) []T {
	var chosen []T
	for k := 0; k < len(list); k += step {
		chosen = append(chosen, list[k])
	}
	return chosen
}

// inRoom returns a copy of a list with spare capacity behind it that is marked, and a function that
// reports whether the list and the marks are still what they were.
func inRoom(list []int64) ([]int64, func() bool) {
	room := append(slices.Clone(list), 77, 78, 79, 80, 81, 82, 83, 84, 85, 86, 87, 88, 89, 90)
	before := slices.Clone(room)
	return room[:len(list)], func() bool { return slices.Equal(room, before) }
}

// spoil overwrites a result and all of its spare capacity, which shows memory that it shares.
func spoil(list []int64) {
	list = list[:cap(list)]
	for i := range list {
		list[i] = -99
	}
}

// wantNothingShared spoils one list of a result at a time: neither the argument, nor another list of
// the result, nor a later result may change.
func wantNothingShared(t *testing.T, what string, get func() [][]int64, isUntouched func() bool) {
	t.Helper()
	want := get()
	result := get()
	for i := range result {
		spoil(result[i])
		for k := i + 1; k < len(result); k++ {
			if !slices.Equal(result[k], want[k]) {
				t.Fatalf("%s: the lists %d and %d share memory", what, i, k)
			}
		}
	}
	if !isUntouched() {
		t.Fatalf("%s changes its argument, what is behind it, or returns its memory", what)
	}
	if !slices.EqualFunc(get(), want, slices.Equal) {
		t.Fatalf("%s keeps its result", what)
	}
}

// wantWord checks a word and the code beside it.
func wantWord(t *testing.T, what string, got []int64, code int64, want []int64) {
	t.Helper()
	if code != impl.ErrNone || !slices.Equal(got, want) {
		t.Errorf("%s = %v, code %d; want %v, code 0", what, got, code, want)
	}
}

// wantValue checks any other result and the code beside it.
func wantValue[T comparable](t *testing.T, what string, got T, code int64, want T) {
	t.Helper()
	if code != impl.ErrNone || got != want {
		t.Errorf("%s = %v, code %d; want %v, code 0", what, got, code, want)
	}
}

// outcome is what a call returned: its code, and whether the other result is its zero value.
type outcome struct {
	code int64
	zero bool
}

func listOutcome[T any](list []T, code int64) outcome { return outcome{code, len(list) == 0} }

func valueOutcome[T comparable](value T, code int64) outcome {
	var zero T
	return outcome{code, value == zero}
}

// wantCode checks that a call failed with a code and the zero value.
func wantCode(t *testing.T, what string, got outcome, want int64) {
	t.Helper()
	if got != (outcome{want, true}) {
		t.Errorf("%s: code %d, zero value %v; want code %d and the zero value", what, got.code, got.zero, want)
	}
}

// call names a call for messages.
func call(name string, arguments ...any) string {
	parts := make([]string, len(arguments))
	for i, x := range arguments {
		parts[i] = fmt.Sprint(x)
		if text, ok := x.(string); ok {
			parts[i] = fmt.Sprintf("%q", text)
		}
	}
	return name + "(" + strings.Join(parts, ", ") + ")"
}
