package impl

import "slices"

const (
	ErrNone = iota
	ErrInvalid
	ErrRange
	ErrLimit
	ErrNotFound
	ErrState
	ErrSyntax
)
const MaxChords = 6

// maxPlaces is how many places the longest words have.
const maxPlaces = 2 * MaxChords

// noNumber fills a key behind its word: no word has it, so words of different lengths have
// different keys.
const noNumber = -1

// wordKey is a word as a value, which can be compared by == and be a key of a map.
type wordKey [maxPlaces]int64

// keyOf returns the key of a list of at most maxPlaces numbers.
func keyOf(list []int64) wordKey {
	filled := slices.Repeat([]int64{noNumber}, maxPlaces)
	copy(filled, list)
	return wordKey(filled)
}

// standTwice reports whether each number of a list stands there twice.
func standTwice(list []int64) bool {
	times := map[int64]int{}
	for _, x := range list {
		times[x]++
	}
	for _, x := range list {
		if times[x] != 2 {
			return false
		}
	}
	return true
}

// isPaired reports whether a list has at most maxPlaces numbers, each of which stands twice.
func isPaired(list []int64) bool { return len(list) <= maxPlaces && standTwice(list) }

// normalOf returns the normal word of a list in which each number stands twice.
func normalOf(list []int64) []int64 {
	numbers := map[int64]int64{}
	word := make([]int64, len(list))
	for place, x := range list {
		number, met := numbers[x]
		if !met {
			number = int64(len(numbers))
			numbers[x] = number
		}
		word[place] = number
	}
	return word
}

// chordsOf returns the number of chords of a word.
func chordsOf(w []int64) int64 { return int64(len(w) / 2) }

// isChord reports whether a word has a chord i.
func isChord(w []int64, i int64) bool { return i >= 0 && i < chordsOf(w) }

// areChords reports whether a list is an ascending one of different chords of a word.
func areChords(w []int64, chords []int64) bool {
	for k, chord := range chords {
		if !isChord(w, chord) || k > 0 && chords[k-1] >= chord {
			return false
		}
	}
	return true
}

// isCut reports whether k is in 0..2 n for a word of n chords.
func isCut(w []int64, k int64) bool { return k >= 0 && k <= int64(len(w)) }

// rotationAt returns the word rotated by k, doubled being the word twice in a row.
func rotationAt(doubled []int64, k int) []int64 {
	end := k + len(doubled)/2
	return normalOf(doubled[k:end:end])
}

// reflectionOf returns the reflected word.
func reflectionOf(w []int64) []int64 {
	backward := slices.Clone(w)
	slices.Reverse(backward)
	return normalOf(backward)
}

// leastOf returns the least rotation of a word.
func leastOf(w []int64) []int64 {
	doubled := slices.Concat(w, w)
	least := slices.Clone(w)
	for k := range w {
		if rotation := rotationAt(doubled, k); slices.Compare(rotation, least) < 0 {
			least = rotation
		}
	}
	return least
}

// areTurned reports whether two words are the same on the circle.
func areTurned(a, b []int64) bool { return keyOf(leastOf(a)) == keyOf(leastOf(b)) }

// wordKeeping returns the word of the chords of w that are kept.
func wordKeeping(w []int64, kept func(chord int64) bool) []int64 {
	left := make([]int64, 0, len(w))
	for _, chord := range w {
		if kept(chord) {
			left = append(left, chord)
		}
	}
	return normalOf(left)
}

// wordWithout returns a word with a chord deleted.
func wordWithout(w []int64, deleted int64) []int64 {
	return wordKeeping(w, func(chord int64) bool { return chord != deleted })
}

// wordWith returns a word with a chord added at p and q, p at most q.
func wordWith(w []int64, p, q int64) []int64 {
	added := []int64{chordsOf(w)}
	return normalOf(slices.Concat(w[:p], added, w[p:q], added, w[q:]))
}

// canJoin reports whether the joined word of two words has at most MaxChords chords.
func canJoin(a, b []int64) bool { return chordsOf(a)+chordsOf(b) <= MaxChords }

// joinOf returns the joined word of two words.
func joinOf(a, b []int64) []int64 {
	joined := slices.Concat(a, b)
	for place := len(a); place < len(joined); place++ {
		joined[place] += chordsOf(a)
	}
	return joined
}

// placesOfChord returns both places of a chord of a word, ascending.
func placesOfChord(w []int64, chord int64) [2]int {
	first := slices.Index(w, chord)
	behind := first + 1
	return [2]int{first, behind + slices.Index(w[behind:], chord)}
}

// doCross reports whether two chords cross, told by their places (a chord and itself do not).
func doCross(a, b [2]int) bool {
	isBetween := func(place int) bool { return a[0] < place && place < a[1] }
	return isBetween(b[0]) != isBetween(b[1])
}

// crossingsOf returns the crossing rows of a word.
func crossingsOf(w []int64) [][]int64 {
	n := chordsOf(w)
	rows := make([][]int64, n)
	for i := range n {
		rows[i] = make([]int64, n)
		for k := range n {
			if doCross(placesOfChord(w, i), placesOfChord(w, k)) {
				rows[i][k] = 1
			}
		}
	}
	return rows
}

// IsWord reports whether w is a word.
func IsWord(w []int64) bool {
	return isPaired(w) && keyOf(normalOf(w)) == keyOf(w)
}

// NormalWord returns the normal word of a list of at most 2 MaxChords numbers, each of which stands
// twice, and ErrNone. (ErrInvalid is not returned.)
func NormalWord(list []int64) ([]int64, int64) {
	if !isPaired(list) {
		return nil, ErrRange
	}
	return normalOf(list), ErrNone
}

// RotateWord returns the word rotated by k, in 0..2 n, and ErrNone.
func RotateWord(w []int64, k int64) ([]int64, int64) {
	if !IsWord(w) {
		return nil, ErrInvalid
	}
	if !isCut(w, k) {
		return nil, ErrRange
	}
	return rotationAt(slices.Concat(w, w), int(k)), ErrNone
}

// ReflectWord returns the reflected word, and ErrNone.
func ReflectWord(w []int64) ([]int64, int64) {
	if !IsWord(w) {
		return nil, ErrInvalid
	}
	return reflectionOf(w), ErrNone
}

// LeastRotation returns the least rotation, and ErrNone.
func LeastRotation(w []int64) ([]int64, int64) {
	if !IsWord(w) {
		return nil, ErrInvalid
	}
	return leastOf(w), ErrNone
}

// IsDiagram reports whether a word is a diagram, and returns ErrNone.
func IsDiagram(w []int64) (bool, int64) {
	if !IsWord(w) {
		return false, ErrInvalid
	}
	return keyOf(leastOf(w)) == keyOf(w), ErrNone
}

// RotationNumber returns the rotation number (1 for no chords), and ErrNone.
func RotationNumber(w []int64) (int64, int64) {
	if !IsWord(w) {
		return 0, ErrInvalid
	}
	doubled := slices.Concat(w, w)
	different := map[wordKey]bool{keyOf(w): true}
	for k := range w {
		different[keyOf(rotationAt(doubled, k))] = true
	}
	return int64(len(different)), ErrNone
}

// AreSameOnCircle reports whether two words are the same on the circle, and returns ErrNone.
func AreSameOnCircle(a []int64, b []int64) (bool, int64) {
	if !IsWord(a) || !IsWord(b) {
		return false, ErrInvalid
	}
	return areTurned(a, b), ErrNone
}

// AreMirrored reports whether two words are mirrored, and returns ErrNone.
func AreMirrored(a []int64, b []int64) (bool, int64) {
	if !IsWord(a) || !IsWord(b) {
		return false, ErrInvalid
	}
	return areTurned(a, reflectionOf(b)), ErrNone
}

// DeleteChord returns w with the chord i, in 0..n - 1, deleted, and ErrNone.
func DeleteChord(w []int64, i int64) ([]int64, int64) {
	if !IsWord(w) {
		return nil, ErrInvalid
	}
	if !isChord(w, i) {
		return nil, ErrRange
	}
	return wordWithout(w, i), ErrNone
}

// AddChord returns w with a chord added at p and q, and ErrNone. Errors: ErrRange also, ahead of
// ErrLimit, if p is greater than q.
func AddChord(w []int64, p int64, q int64) ([]int64, int64) {
	if !IsWord(w) {
		return nil, ErrInvalid
	}
	if !isCut(w, p) || !isCut(w, q) || p > q {
		return nil, ErrRange
	}
	if chordsOf(w) >= MaxChords {
		return nil, ErrLimit
	}
	return wordWith(w, p, q), ErrNone
}

// JoinWords returns the joined word, and ErrNone.
func JoinWords(a []int64, b []int64) ([]int64, int64) {
	if !IsWord(a) || !IsWord(b) {
		return nil, ErrInvalid
	}
	if !canJoin(a, b) {
		return nil, ErrLimit
	}
	return joinOf(a, b), ErrNone
}

// WordOfChords returns the word of some chords, told by an ascending list of different ones in 0..n
// - 1, and ErrNone.
func WordOfChords(w []int64, chords []int64) ([]int64, int64) {
	if !IsWord(w) {
		return nil, ErrInvalid
	}
	if !areChords(w, chords) {
		return nil, ErrRange
	}
	return wordKeeping(w, func(chord int64) bool { return slices.Contains(chords, chord) }), ErrNone
}

// CrossingRows returns the crossing rows, and ErrNone.
func CrossingRows(w []int64) ([][]int64, int64) {
	if !IsWord(w) {
		return nil, ErrInvalid
	}
	return crossingsOf(w), ErrNone
}

// CountCrossings returns the number of pairs of chords that cross, and ErrNone.
func CountCrossings(w []int64) (int64, int64) {
	if !IsWord(w) {
		return 0, ErrInvalid
	}
	crossings := int64(0)
	for i, row := range crossingsOf(w) {
		for _, cross := range row[:i] {
			crossings += cross
		}
	}
	return crossings, ErrNone
}

// PlacesOf returns both places of the chord i, in 0..n - 1, ascending, and ErrNone.
func PlacesOf(w []int64, i int64) ([]int64, int64) {
	if !IsWord(w) {
		return nil, ErrInvalid
	}
	if !isChord(w, i) {
		return nil, ErrRange
	}
	places := placesOfChord(w, i)
	return []int64{int64(places[0]), int64(places[1])}, ErrNone
}

// WordText returns the text of w, and ErrNone.
func WordText(w []int64) (string, int64) {
	if !IsWord(w) {
		return "", ErrInvalid
	}
	letters := make([]byte, len(w))
	for place, chord := range w {
		letters[place] = 'a' + byte(chord)
	}
	return string(letters), ErrNone
}

// ParseWord returns the word with a text, and ErrNone. Errors: ErrSyntax if there is none. (No
// other errors are returned.)
func ParseWord(text string) ([]int64, int64) {
	// A longer text would take memory for nothing.
	if len(text) > maxPlaces {
		return nil, ErrSyntax
	}
	word := make([]int64, len(text))
	for place := range len(text) {
		word[place] = int64(text[place]) - 'a'
	}
	if !IsWord(word) {
		return nil, ErrSyntax
	}
	return word, ErrNone
}
