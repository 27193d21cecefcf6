package tests

import (
	"fmt"
	"regexp"
	"slices"
	"strconv"
	"strings"
	"sync"
	"testing"

	"loop.example/g01303/impl"
)

// maxConsole and maxLines are the limits of texts as chapter 11 tells them.
const (
	maxConsole = 4000
	maxLines   = 40
)

// asked is what a line asks for, on which desk: its TEXT, and its first and its second number.
type asked struct {
	impl.Desk
	text          string
	first, second int64
}

// tableLine is a line of the chapter's table: the words behind the command (T for a TEXT, N for a number),
// the part of the desk that it changes (none, or all of them, have no letter), and its result: that part,
// or what is put out, or nil if the line is wrong.
type tableLine struct {
	behind string
	part   byte
	result func(a asked) any
}

// ifTrue returns a result where a condition holds.
func ifTrue[T any](holds bool, result func() T) any {
	if !holds {
		return nil
	}
	return result()
}

// always makes a function of a word a result that is never wrong.
func always[T any](result func(w []int64) T) func(a asked) any {
	return func(a asked) any { return result(a.Word) }
}

// chords returns how many chords a word has.
func chords(w []int64) int64 { return int64(len(w) / 2) }

// textsOfWords has the texts of all words.
var textsOfWords = sync.OnceValue(func() map[string]bool {
	texts := map[string]bool{}
	for _, w := range wordsUpTo(impl.MaxChords) {
		texts[letters(w)] = true
	}
	return texts
})

// termPattern is what a Term of a text of a sum looks like.
var termPattern = regexp.MustCompile(`^([1-9][0-9]?)\*([a-f]*)$`)

// parsedByDefinition returns the sum with a text, or nil if there is none: the way back shows Terms that
// are not in order.
func parsedByDefinition(p int64, text string) any {
	coefficients := plain{}
	for _, part := range strings.Split(text, "+") {
		match := termPattern.FindStringSubmatch(part)
		if match == nil && text != "0" || match != nil && !textsOfWords()[match[2]] {
			return nil
		}
		if match != nil {
			value, _ := strconv.Atoi(match[1])
			coefficients[match[2]] = int64(value)
		}
	}
	sum := sumByDefinition(p, coefficients)
	return ifTrue(textByDefinition(sum) == text && len(sum.Terms) <= 200, func() impl.Sum { return sum })
}

// fewTerms returns a sum if it does not have too many Terms, or else nil.
func fewTerms(x impl.Sum) any {
	return ifTrue(len(x.Terms) <= 200, func() impl.Sum { return x })
}

// longestWord returns the greatest number of chords that a word of a sum has.
func longestWord(x impl.Sum) int {
	longest := 0
	for _, term := range x.Terms {
		longest = max(longest, len(term.Word)/2)
	}
	return longest
}

// isOrdered reports whether no word of a sum has more than MaxOrder chords.
func isOrdered(x impl.Sum) bool { return longestWord(x) <= maxOrder }

// emptyCoefficient returns the coefficient of the empty word.
func emptyCoefficient(x impl.Sum) int64 { return plainOf(x)[""] }

// hasSeries reports whether exponentials or logarithms of a sum up to n are told.
func hasSeries(a asked, empty int64) bool {
	return isOrdered(a.Sum) && a.first <= maxDivided && a.first < a.Sum.Prime && emptyCoefficient(a.Sum) == empty
}

// namedByDefinition are the webs with names.
var namedByDefinition = map[string]impl.Web{
	"chord":  web([]int64{0, 0}),
	"fork":   web([]int64{0, 1, 2}, []int64{0, 1, 2}),
	"ring":   web([]int64{0, 1}, []int64{0, 2, 3}, []int64{1, 3, 2}),
	"bridge": web([]int64{0, 1, 2, 3}, []int64{0, 1, 4}, []int64{4, 2, 3}),
	"wheel":  web([]int64{0, 1, 2}, []int64{0, 3, 5}, []int64{1, 4, 3}, []int64{2, 5, 4}),
	"comb":   web([]int64{0, 1, 2, 3, 4}, []int64{0, 1, 5}, []int64{5, 2, 6}, []int64{6, 3, 4}),
}

// hasLegs reports whether a web has legs k and k + 1.
func hasLegs(a asked) bool { return a.first+1 < int64(len(a.Web.Legs)) }

// crossingsByDefinition counts the pairs of chords that cross.
func crossingsByDefinition(w []int64) int64 { return int64(len(crossingPairs(w))) }

// tableOfLines is the chapter's table, by the definitions of the other chapters' tests.
var tableOfLines = map[string]tableLine{
	"word": {"T", 'W', func(a asked) any {
		return ifTrue(textsOfWords()[a.text], func() []int64 { return spelt(a.text) })
	}},
	"join": {"T", 'W', func(a asked) any {
		isShort := len(a.Word)+len(a.text) <= 2*impl.MaxChords
		return ifTrue(textsOfWords()[a.text] && isShort, func() []int64 { return spelt(joinedByDefinition(letters(a.Word), a.text)) })
	}},
	"rotate": {"N", 'W', func(a asked) any {
		return ifTrue(a.first <= int64(len(a.Word)), func() []int64 { return rotatedByDefinition(a.Word, int(a.first)) })
	}},
	"reflect": {"", 'W', always(reflectedByDefinition)},
	"least":   {"", 'W', always(leastByDefinition)},
	"delete": {"N", 'W', func(a asked) any {
		return ifTrue(a.first < chords(a.Word), func() []int64 {
			return keptByDefinition(a.Word, chordsBeside(a.Word, []int64{a.first}))
		})
	}},
	"add": {"NN", 'W', func(a asked) any {
		arePlaces := a.first <= a.second && a.second <= int64(len(a.Word))
		return ifTrue(arePlaces && chords(a.Word) < impl.MaxChords, func() []int64 {
			return addedByDefinition(a.Word, int(a.first), int(a.second))
		})
	}},
	"local": {"N", 'W', func(a asked) any {
		return ifTrue(a.first < chords(a.Word), func() []int64 { return normalByDefinition(complementedByDefinition(a.Word, a.first)) })
	}},
	"pivot": {"NN", 'W', func(a asked) any {
		areChords := max(a.first, a.second) < chords(a.Word) && a.first != a.second
		return ifTrue(areChords && crossByDefinition(a.Word, a.first, a.second), func() []int64 {
			return normalByDefinition(pivotedByDefinition(a.Word, a.first, a.second))
		})
	}},
	"prime": {"N", 'S', func(a asked) any {
		return ifTrue(slices.Contains(primes, a.first), func() impl.Sum { return impl.Sum{Prime: a.first} })
	}},
	"sum": {"T", 'S', func(a asked) any { return parsedByDefinition(a.Sum.Prime, a.text) }},
	"plus": {"N", 'S', func(a asked) any {
		if a.first >= a.Sum.Prime {
			return nil
		}
		coefficients := plainOf(a.Sum)
		coefficients[letters(a.Word)] += a.first
		return fewTerms(sumByDefinition(a.Sum.Prime, coefficients))
	}},
	"four": {"NN", 'S', func(a asked) any {
		areInRange := a.first < chords(a.Word) && a.second <= int64(len(a.Word))
		return ifTrue(areInRange && chords(a.Word) < impl.MaxChords, func() impl.Sum {
			return sumByDefinition(a.Sum.Prime, fourTermByDefinition(a.Word, a.first, int(a.second)))
		})
	}},
	"circle": {"", 'S', func(a asked) any {
		return sumByDefinition(a.Sum.Prime, replacedByDefinition(a.Sum, leastByDefinition))
	}},
	"derive": {"", 'S', func(a asked) any {
		return fewTerms(sumByDefinition(a.Sum.Prime, derivativeByDefinition(plainOf(a.Sum))))
	}},
	"reduce": {"", 'S', func(a asked) any {
		return ifTrue(isOrdered(a.Sum), func() impl.Sum { return reducedByDefinition(a.Sum, false) })
	}},
	"free": {"", 'S', func(a asked) any {
		return ifTrue(isOrdered(a.Sum), func() impl.Sum { return reducedByDefinition(a.Sum, true) })
	}},
	"antipode": {"", 'S', func(a asked) any {
		return ifTrue(isOrdered(a.Sum), func() impl.Sum {
			return sumByDefinition(a.Sum.Prime, antipodeByDefinition(plainOf(a.Sum)))
		})
	}},
	"primitive": {"", 'S', func(a asked) any {
		return ifTrue(isOrdered(a.Sum) && longestWord(a.Sum) < int(a.Sum.Prime), func() impl.Sum {
			return sumByDefinition(a.Sum.Prime, primitiveByDefinition(a.Sum.Prime, plainOf(a.Sum)))
		})
	}},
	"exp": {"N", 'S', func(a asked) any {
		return ifTrue(hasSeries(a, 0), func() impl.Sum { return exponentialByDefinition(a.Sum, int(a.first)) })
	}},
	"log": {"N", 'S', func(a asked) any {
		return ifTrue(hasSeries(a, 1), func() impl.Sum { return logarithmByDefinition(a.Sum, int(a.first)) })
	}},
	"resolve": {"", 'S', func(a asked) any { return sumByDefinition(a.Sum.Prime, resolutionByDefinition(a.Web)) }},
	"web": {"T", 'F', func(a asked) any {
		named, isNamed := namedByDefinition[a.text]
		return ifTrue(isNamed, func() impl.Web { return copyWeb(named) })
	}},
	"legs": {"", 'F', func(a asked) any {
		return ifTrue(len(a.Word) <= maxWeb, func() impl.Web { return web(slices.Clone(a.Word)) })
	}},
	"turn": {"N", 'F', func(a asked) any {
		return ifTrue(a.first < int64(len(a.Web.Forks)), func() impl.Web { return turnedByDefinition(a.Web, int(a.first)) })
	}},
	"exchange": {"N", 'F', func(a asked) any {
		return ifTrue(hasLegs(a), func() impl.Web { return exchangedByDefinition(a.Web, int(a.first)) })
	}},
	"fork": {"N", 'F', func(a asked) any {
		return ifTrue(hasLegs(a), func() impl.Web { return forkedByDefinition(a.Web, int(a.first)) })
	}},
	"show":      {"", 0, always(wordOutputByDefinition)},
	"look":      {"", 0, func(a asked) any { return textByDefinition(a.Sum) }},
	"see":       {"", 0, func(a asked) any { return webOutputByDefinition(a.Web) }},
	"circles":   {"", 0, always(circlesByDefinition)},
	"genus":     {"", 0, always(func(w []int64) int64 { return (chords(w) + 1 - circlesByDefinition(w)) / 2 })},
	"rank":      {"", 0, always(rankByDefinition)},
	"degrees":   {"", 0, always(degreesByDefinition)},
	"crossings": {"", 0, always(crossingsByDefinition)},
	"conway":    {"", 0, always(func(w []int64) int64 { return int64(len(weightByDefinition(w, 3))) })},
	"gl":        {"", 0, always(func(w []int64) []int64 { return weightByDefinition(w, 0) })},
	"interlace": {"", 0, always(interlaceByDefinition)},
	"colours": {"N", 0, func(a asked) any {
		return ifTrue(a.first <= maxColours, func() int64 { return valueOfNumbers(colouringByParts(a.Word), a.first) })
	}},
	"cliques": {"", 0, always(func(w []int64) []int64 { return setsByDefinition(w, true) })},
	"dimension": {"N", 0, func(a asked) any {
		return ifTrue(a.first <= maxOrder, func() int64 {
			relations := relationLists[relationKey{a.Sum.Prime, int(a.first), false}]
			return int64(len(circleLists[a.first].diagrams) - len(relations))
		})
	}},
	"pure":   {"", 0, func(a asked) any { return isPrimitiveByDefinition(a.Sum) }},
	"loops":  {"", 0, func(a asked) any { return loopsByDefinition(a.Web) }},
	"degree": {"", 0, func(a asked) any { return int64(len(a.Web.Legs)+len(a.Web.Forks)) / 2 }},
	"reset":  {"", 'D', func(a asked) any { return newByDefinition() }},
}

// loopsByDefinition returns the edges less legs and forks, and the parts.
func loopsByDefinition(w impl.Web) int64 {
	parts, _ := webPartsByDefinition(w)
	return int64(len(edgesOfWeb(w))-len(w.Legs)-len(w.Forks)) + parts
}

// newByDefinition is the new desk.
func newByDefinition() impl.Desk {
	return impl.Desk{Word: spelt("abab"), Sum: impl.Sum{Prime: 5}, Web: copyWeb(namedByDefinition["fork"])}
}

// listByDefinition spells numbers with blanks between them.
func listByDefinition(list []int64) string { return strings.Trim(fmt.Sprint(list), "[]") }

// outputByDefinition spells whatever is put out.
func outputByDefinition(result any) string {
	switch result := result.(type) {
	case []int64:
		if len(result) == 0 {
			return "none"
		}
		return listByDefinition(result)
	case bool:
		return map[bool]string{true: "yes", false: "no"}[result]
	}
	return fmt.Sprint(result)
}

func wordOutputByDefinition(w []int64) string {
	if len(w) == 0 {
		return "none"
	}
	return letters(w)
}

func webOutputByDefinition(w impl.Web) string {
	parts := []string{listByDefinition(w.Legs)}
	for _, fork := range w.Forks {
		parts = append(parts, " ; "+listByDefinition(fork))
	}
	return strings.Join(parts, "")
}

// numberPattern is what a number of a line looks like.
var numberPattern = regexp.MustCompile(`^(0|[1-9][0-9]{0,8})$`)

// askedByDefinition reads a line, and returns nil if it is not in the table.
func askedByDefinition(d impl.Desk, line string) any {
	words := strings.Split(line, " ")
	row, isThere := tableOfLines[words[0]]
	if !isThere || len(words) != 1+len(row.behind) {
		return nil
	}
	a := asked{Desk: d}
	for k, word := range words[1:] {
		if row.behind[k] == 'T' {
			a.text = word
			continue
		}
		if !numberPattern.MatchString(word) {
			return nil
		}
		number, _ := strconv.Atoi(word)
		*[]*int64{&a.first, &a.second}[k] = int64(number)
	}
	return a
}

// afterByDefinition returns the desk after a line, and the output.
func afterByDefinition(d impl.Desk, line string) (impl.Desk, string) {
	a, isRead := askedByDefinition(d, line).(asked)
	if !isRead {
		return d, "error"
	}
	row := tableOfLines[strings.Split(line, " ")[0]]
	switch result := row.result(a); {
	case result == nil:
		return d, "error"
	case row.part == 'W':
		d.Word = result.([]int64)
		return d, wordOutputByDefinition(d.Word)
	case row.part == 'S':
		d.Sum = result.(impl.Sum)
		return d, textByDefinition(d.Sum)
	case row.part == 'F':
		d.Web = result.(impl.Web)
		return d, webOutputByDefinition(d.Web)
	case row.part == 'D':
		return result.(impl.Desk), "ok"
	default:
		return d, outputByDefinition(result)
	}
}

// equalDesks reports whether two desks have equal parts.
func equalDesks(c, d impl.Desk) bool {
	return slices.Equal(c.Word, d.Word) && equalSums(c.Sum, d.Sum) && equalWebs(c.Web, d.Web)
}

// showDesk names a desk for messages.
func showDesk(d impl.Desk) string {
	return fmt.Sprintf("{%s, %.300s, %s}", wordOutputByDefinition(d.Word), spelling(d.Sum), showWeb(d.Web))
}

// wantLine checks the desk after a line, and the output, and returns both.
func wantLine(t *testing.T, d impl.Desk, line string, want impl.Desk, output string) (impl.Desk, string) {
	t.Helper()
	after, got := impl.RunLine(d, line)
	if got != output || !equalDesks(after, want) {
		t.Errorf("%.100q on %s leads to %s with %.300q; want %s with %.300q", line, showDesk(d), showDesk(after), got, showDesk(want), output)
	}
	return after, got
}

// deskOf returns the desk after some lines on the new desk, none of which may be wrong.
func deskOf(t *testing.T, lines ...string) impl.Desk {
	t.Helper()
	d := impl.NewDesk()
	for _, line := range lines {
		after, output := impl.RunLine(d, line)
		if output == "error" {
			t.Fatalf("%q on %s is wrong", line, showDesk(d))
		}
		d = after
	}
	return d
}

// someDesks have words, sums and webs of all sizes, each of them beside some of the others.
func someDesks() []impl.Desk {
	var words [][]int64
	for _, text := range []string{
		"", "aa", "aabb", "abab", "abba", "abcabc", "abcacb", "aabcbc", "abcdbadc", "abcddcba", "abacbdcede", "abcdeabcde",
		"aabbccddeeff", "abcdefabcdef", "abacbdcedfef", "abcadbcefefd", "abbcaddc",
	} {
		words = append(words, spelt(text))
	}
	var sums []impl.Sum
	for number, p := range []int64{5, 2, 13, 3, 7, 5, 11} {
		all := wordsUpTo(4)
		sums = append(sums, impl.Sum{Prime: p}, one(p, "", 1), one(p, "abab", p-1), mixed(p, all, 5, number),
			withEmpty(mixed(p, wordsUpTo(3), 6, number), 1), withEmpty(mixed(p, wordsUpTo(2), 3, number), 0))
	}
	sums = append(sums, firstOf(5, wordsUpTo(4), len(wordsUpTo(4))), firstOf(3, wordsOfSize(5), 200), firstOf(13, wordsOfSize(6), 200),
		mixed(7, wordsUpTo(6), 9, 3), mixed(5, wordsOfSize(5), 3, 1))
	webs := []impl.Web{web(nil), web([]int64{7, 7}), web([]int64{0, 1, 2, 3, 3, 2, 1, 0})}
	for _, name := range []string{"chord", "fork", "ring", "bridge", "wheel", "comb"} {
		webs = append(webs, copyWeb(namedByDefinition[name]))
	}
	webs = append(webs, everyOther(someWebs(), 97)...)
	var desks []impl.Desk
	for number := range max(len(words), len(sums), len(webs)) * 2 {
		desks = append(desks, impl.Desk{
			Word: slices.Clone(words[number%len(words)]),
			Sum:  sums[number*5%len(sums)],
			Web:  copyWeb(webs[number%len(webs)]),
		})
	}
	return append(desks, newByDefinition())
}

// textsOfLines are words of lines, some of which are texts of words, of sums, or names of webs.
var textsOfLines = []string{
	"", "aa", "abab", "abba", "aabb", "abcabc", "abcdabcd", "abcdefabcdef", "aabbccddeeff", "a", "ba", "abb", "baba", "aba", "AA", "aaa", "aaaa",
	"aabbccddeeffgg", "0", "00", "1*", "1*aa", "2*aa+1*abab", "1*abab+1*aa", "12*abba", "01*aa", "1*ab", "1*aa+1*aa", "0*aa", "-1*aa", "1*aa+",
	"none", "chord", "fork", "ring", "bridge", "wheel", "comb", "Fork", "forks", "wheel;",
}

// linesBehind returns lines of a command with all words that may stand behind it, numbers beyond all ranges
// among them.
func linesBehind(name, behind string) []string {
	var numbers []string
	for number := range 15 {
		numbers = append(numbers, strconv.Itoa(number))
	}
	numbers = append(numbers, "100", "999999999")
	lines := []string{name}
	for _, kind := range behind {
		choices := numbers
		if kind == 'T' {
			choices = textsOfLines
		}
		var longer []string
		for _, line := range lines {
			for _, word := range choices {
				longer = append(longer, line+" "+word)
			}
		}
		lines = longer
	}
	return lines
}
