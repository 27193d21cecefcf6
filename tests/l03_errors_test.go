package tests

import (
	"slices"
	"strings"
	"testing"

	"loop.example/g01303/impl"
)

func TestIsSumTakesJustTheSums(t *testing.T) {
	for _, p := range primes {
		for _, x := range mixedSums(p, impl.MaxChords) {
			if !impl.IsSum(x) {
				t.Errorf("IsSum(%s) = false", spelling(x))
			}
		}
		for value := int64(1); value < p; value++ {
			if !impl.IsSum(one(p, "abcdefabcdef", value)) {
				t.Errorf("IsSum(%s) = false", spelling(one(p, "abcdefabcdef", value)))
			}
		}
		words := wordsOfSize(impl.MaxChords)
		if !impl.IsSum(firstOf(p, words, impl.MaxTerms)) {
			t.Errorf("IsSum of 200 terms for %d = false", p)
		}
		if impl.IsSum(firstOf(p, words, impl.MaxTerms+1)) {
			t.Errorf("IsSum of 201 terms for %d = true", p)
		}
	}
	// Fewer chords come first, though the letters say otherwise.
	ordered := impl.Sum{Prime: 3, Terms: []impl.Term{{Word: spelt("abab"), Value: 1}, {Word: spelt("aabbcc"), Value: 1}}}
	if !impl.IsSum(ordered) {
		t.Errorf("IsSum(%s) = false", spelling(ordered))
	}
	for _, x := range notSums() {
		if impl.IsSum(x) {
			t.Errorf("IsSum(%v for %d) = true", x.Terms[:min(len(x.Terms), 5)], x.Prime)
		}
	}
	if impl.MaxTerms != 200 || impl.MaxPairs != 600 {
		t.Errorf("MaxTerms is %d, MaxPairs is %d", impl.MaxTerms, impl.MaxPairs)
	}
}

// TestNoSumsAreInvalid gives each function values that are no sums, beside primes and numbers that
// would be out of range, and words that would be too long: ErrInvalid comes first.
func TestNoSumsAreInvalid(t *testing.T) {
	longest := one(2, "abcdefabcdef", 1)
	for _, bad := range notSums() {
		name := call("with", bad.Prime, len(bad.Terms))
		for _, k := range []int64{0, 1, -1, 14} {
			wantCode(t, "AddSums first "+name, sumOutcome(impl.AddSums(bad, longest, k)), impl.ErrInvalid)
			wantCode(t, "AddSums second "+name, sumOutcome(impl.AddSums(longest, bad, k)), impl.ErrInvalid)
			wantCode(t, "AddSums both "+name, sumOutcome(impl.AddSums(bad, bad, k)), impl.ErrInvalid)
			wantCode(t, "PartOfSum "+name, sumOutcome(impl.PartOfSum(bad, k)), impl.ErrInvalid)
			wantCode(t, "RotateSum "+name, sumOutcome(impl.RotateSum(bad, k)), impl.ErrInvalid)
		}
		wantCode(t, "JoinSums first "+name, sumOutcome(impl.JoinSums(bad, longest)), impl.ErrInvalid)
		wantCode(t, "JoinSums second "+name, sumOutcome(impl.JoinSums(longest, bad)), impl.ErrInvalid)
		wantCode(t, "JoinSums both "+name, sumOutcome(impl.JoinSums(bad, bad)), impl.ErrInvalid)
		wantCode(t, "CoefficientAt "+name, valueOutcome(impl.CoefficientAt(bad, spelt("aa"))), impl.ErrInvalid)
		wantCode(t, "CoproductOf "+name, listOutcome(impl.CoproductOf(bad)), impl.ErrInvalid)
		wantCode(t, "DerivativeOf "+name, sumOutcome(impl.DerivativeOf(bad)), impl.ErrInvalid)
		wantCode(t, "CircleSum "+name, sumOutcome(impl.CircleSum(bad)), impl.ErrInvalid)
		wantCode(t, "ReflectSum "+name, sumOutcome(impl.ReflectSum(bad)), impl.ErrInvalid)
		wantCode(t, "RotateSum 1001 "+name, sumOutcome(impl.RotateSum(bad, 1001)), impl.ErrInvalid)
		wantCode(t, "TotalOf "+name, valueOutcome(impl.TotalOf(bad)), impl.ErrInvalid)
		wantCode(t, "SumText "+name, valueOutcome(impl.SumText(bad)), impl.ErrInvalid)
	}
}

// TestSumsOfNoWords takes lists that are no words, beside a p that is no prime and values out of
// range.
func TestSumsOfNoWords(t *testing.T) {
	for _, bad := range notWords() {
		name := call("with", bad[:min(len(bad), 20)])
		for _, p := range []int64{3, 4, 0} {
			for _, value := range []int64{0, 1, 3, -1} {
				wantCode(t, call("SumOfWord", p, value)+name, sumOutcome(impl.SumOfWord(p, bad, value)), impl.ErrInvalid)
			}
		}
		for _, x := range []impl.Sum{{Prime: 3}, one(3, "aa", 1), firstOf(2, wordsOfSize(6), 200)} {
			wantCode(t, "CoefficientAt "+name, valueOutcome(impl.CoefficientAt(x, bad)), impl.ErrInvalid)
		}
		wantCode(t, "CoefficientAt neither "+name, valueOutcome(impl.CoefficientAt(impl.Sum{}, bad)), impl.ErrInvalid)
	}
}

// TestPrimesOutOfRange takes primes that are none, or that are different, with numbers that are out
// of range as well, words that would be too long and sums that would have too many Terms.
func TestPrimesOutOfRange(t *testing.T) {
	for _, p := range notPrimes {
		for _, value := range []int64{0, 1, p - 1, p, -1} {
			wantCode(t, call("SumOfWord", p, "aa", value), sumOutcome(impl.SumOfWord(p, spelt("aa"), value)), impl.ErrRange)
			wantCode(t, call("SumOfWord", p, "", value), sumOutcome(impl.SumOfWord(p, nil, value)), impl.ErrRange)
		}
		for _, text := range []string{"0", "1*", "1*aa", "", "1*ab", "aa"} {
			wantCode(t, call("ParseSum", p, text), sumOutcome(impl.ParseSum(p, text)), impl.ErrRange)
		}
	}
	words := wordsOfSize(6)
	for _, p := range primes {
		for _, q := range primes {
			if p == q {
				continue
			}
			for _, x := range []impl.Sum{{Prime: p}, one(p, "aa", 1), firstOf(p, words, 200)} {
				for _, y := range []impl.Sum{{Prime: q}, one(q, "aa", 1), firstOf(q, words[200:], 200)} {
					for _, k := range []int64{0, 1, -1, 13} {
						what := call("AddSums", p, len(x.Terms), q, len(y.Terms), k)
						wantCode(t, what, sumOutcome(impl.AddSums(x, y, k)), impl.ErrRange)
					}
					what := call("JoinSums", p, len(x.Terms), q, len(y.Terms))
					wantCode(t, what, sumOutcome(impl.JoinSums(x, y)), impl.ErrRange)
				}
			}
		}
	}
}

// TestNumbersOfSumsOutOfRange takes numbers just behind their ranges and far away from them, and
// sums that would have too many Terms beside them.
func TestNumbersOfSumsOutOfRange(t *testing.T) {
	words := wordsOfSize(6)
	for _, p := range primes {
		full, others := firstOf(p, words, 200), firstOf(p, words[200:], 200)
		for _, k := range append([]int64{p, p + 1}, oddNumbers...) {
			for _, text := range []string{"", "aa", "abcdefabcdef"} {
				wantCode(t, call("SumOfWord", p, text, k), sumOutcome(impl.SumOfWord(p, spelt(text), k)), impl.ErrRange)
			}
			wantCode(t, call("AddSums without Terms", p, k), sumOutcome(impl.AddSums(impl.Sum{Prime: p}, impl.Sum{Prime: p}, k)), impl.ErrRange)
			wantCode(t, call("AddSums", p, k), sumOutcome(impl.AddSums(full, one(p, "aa", 1), k)), impl.ErrRange)
			wantCode(t, call("AddSums", p, k), sumOutcome(impl.AddSums(full, others, k)), impl.ErrRange)
		}
		for _, x := range []impl.Sum{{Prime: p}, one(p, "aa", 1), full} {
			for _, n := range append([]int64{7, 8, 12}, oddNumbers...) {
				wantCode(t, call("PartOfSum", p, len(x.Terms), n), sumOutcome(impl.PartOfSum(x, n)), impl.ErrRange)
			}
			for _, k := range append([]int64{1001, 1002, 2000}, slices.DeleteFunc(slices.Clone(oddNumbers), func(k int64) bool { return k == 14 })...) {
				wantCode(t, call("RotateSum", p, len(x.Terms), k), sumOutcome(impl.RotateSum(x, k)), impl.ErrRange)
			}
		}
	}
}

// TestProductsOfTooManyChords takes products with at least one joined word of 7 to 12 chords.
func TestProductsOfTooManyChords(t *testing.T) {
	for _, p := range primes {
		for first := range impl.MaxChords + 1 {
			for second := range impl.MaxChords + 1 {
				a, b := wordsOfSize(first), wordsOfSize(second)
				x, y := one(p, letters(a[len(a)-1]), p-1), one(p, letters(b[len(b)/2]), 1)
				product, code := impl.JoinSums(x, y)
				if first+second > impl.MaxChords {
					wantCode(t, call("JoinSums", first, second), sumOutcome(product, code), impl.ErrLimit)
					continue
				}
				wantSum(t, call("JoinSums", first, second), product, code, sumByDefinition(p, productByDefinition(x, y)))
			}
		}
		// Just the last one of the joined words is too long.
		x, y := sumByDefinition(p, plain{"": 1, "aa": 1, "abcabc": 1}), sumByDefinition(p, plain{"": 1, "abab": 1, "abcdabcd": 1})
		wantCode(t, call("JoinSums", p), sumOutcome(impl.JoinSums(x, y)), impl.ErrLimit)
		wantCode(t, call("JoinSums", p), sumOutcome(impl.JoinSums(y, x)), impl.ErrLimit)
	}
}

func TestParseSumTakesNothingElse(t *testing.T) {
	bad := []string{
		"", "1", "5", "aa", "*", "*aa", "*+*", "a*aa", "1aa", "1*ab", "1*ba", "1*a", "1*AA", "1*bb", "1*aaa", "1*aabbccddeeffgg",
		"0*", "0*aa", "00", "00*aa", "01*aa", "001*aa", "+1*aa", "-1*aa", "-0", "+0", "0+0", "0+", "+0", "0*+1*aa", "1*+0*aa",
		"1*aa+0", "0+1*aa", "1*aa+", "+1*aa", "1*aa++1*abab", "1*aa+1*aa", "1*+1*", "1*aa+1*", "1*abab+1*aa", "1*abab+1*aabb",
		"1*aabbcc+1*abab", "1*aa*", "1**aa", "1*aa*1", "1*1*aa", "1*aa1*abab", "1*aa 1*abab", "1*aa-1*abab", "1*aa,1*abab",
		" 1*aa", "1*aa ", "1 *aa", "1* aa", "1*aa +1*abab", "1*aa+ 1*abab", "1*aa\n", "\n", "1*aa\x00", "\x00", "1.0*aa", "1e0*aa",
		"0x1*aa", "1_0*aa", "0b1*aa", "١*aa", "1*é", "１*aa", "1*\xff\xff", "\xff", "13*aa", "14*aa", "99*aa", "256*aa",
		"9223372036854775807*aa", "9223372036854775808*aa", "18446744073709551617*aa", "-9223372036854775808*aa", "none", "sum",
	}
	for _, p := range primes {
		for _, text := range bad {
			wantCode(t, call("ParseSum", p, text), sumOutcome(impl.ParseSum(p, text)), impl.ErrSyntax)
		}
		for value := range int64(30) {
			text := textByDefinition(impl.Sum{Prime: p, Terms: []impl.Term{{Word: spelt("aa"), Value: value}}})
			sum, code := impl.ParseSum(p, text)
			if value == 0 || value >= p {
				wantCode(t, call("ParseSum", p, text), sumOutcome(sum, code), impl.ErrSyntax)
				continue
			}
			wantSum(t, call("ParseSum", p, text), sum, code, one(p, "aa", value))
		}
	}
}

// TestTextsOfAllKindsAreSumsOrNone tries all short texts of a few letters: those that are taken are
// the texts of what they lead to, and as many as there are sums with such texts.
func TestTextsOfAllKindsAreSumsOrNone(t *testing.T) {
	const letters = "01*+a"
	taken := 0
	for size := range 7 {
		count := 1
		for range size {
			count *= len(letters)
		}
		for number := range count {
			text := ""
			for range size {
				text += letters[number%len(letters) : number%len(letters)+1]
				number /= len(letters)
			}
			sum, code := impl.ParseSum(11, text)
			if code == impl.ErrNone {
				taken++
				if !impl.IsSum(sum) || textByDefinition(sum) != text {
					t.Errorf("ParseSum(11, %q) = %s", text, spelling(sum))
				}
				continue
			}
			wantCode(t, call("ParseSum", 11, text), sumOutcome(sum, code), impl.ErrSyntax)
		}
	}
	// They are 0, 1*, 10*, 1*aa and 10*aa; the shortest one with two Terms, 1*+1*aa, is longer.
	if taken != 5 {
		t.Errorf("%d texts of at most 6 letters are taken", taken)
	}
}

func TestTextsOfTooManyTerms(t *testing.T) {
	words := wordsOfSize(6)
	for _, p := range primes {
		wantCode(t, call("ParseSum of 201 terms", p), sumOutcome(impl.ParseSum(p, textByDefinition(firstOf(p, words, 201)))), impl.ErrSyntax)
	}
	for _, text := range []string{
		strings.Repeat("+", 1<<20), strings.Repeat("1*+", 1<<20), strings.Repeat("1*aa+", 1<<18) + "1*aa", strings.Repeat("1", 1<<20),
		"1*" + strings.Repeat("aa", 1<<20), strings.Repeat("0", 1<<20), strings.Repeat("0", 1<<20) + "1*aa", strings.Repeat("*", 1<<20),
		textByDefinition(firstOf(2, words, len(words))),
	} {
		wantCode(t, call("ParseSum", 2, text[:20]), sumOutcome(impl.ParseSum(2, text)), impl.ErrSyntax)
	}
}

// sumInRoom returns a copy of a sum whose words and Terms have spare capacity behind them that is
// marked, and a function that reports whether all of it is still what it was.
func sumInRoom(x impl.Sum) (impl.Sum, func() bool) {
	room := make([]impl.Term, len(x.Terms)+5)
	checks := make([]func() bool, len(room))
	for k := range room {
		word, value := spelt("abba"), int64(1)
		if k < len(x.Terms) {
			word, value = x.Terms[k].Word, x.Terms[k].Value
		}
		room[k].Value = value
		room[k].Word, checks[k] = inRoom(word)
	}
	before := slices.Clone(room)
	isUntouched := func() bool {
		for k := range room {
			if room[k].Value != before[k].Value || len(room[k].Word) != len(before[k].Word) {
				return false
			}
			if &room[k].Word[:1][0] != &before[k].Word[:1][0] || !checks[k]() {
				return false
			}
		}
		return true
	}
	return impl.Sum{Prime: x.Prime, Terms: room[:len(x.Terms)]}, isUntouched
}

// listsOf returns all words of a result.
func listsOf(x impl.Sum) [][]int64 {
	var lists [][]int64
	for _, term := range x.Terms {
		lists = append(lists, term.Word)
	}
	return lists
}

// sumCalls are the calls that return sums or pairs, told by all lists of their results, each with
// legal arguments for sums of words of at most 3 chords.
func sumCalls() map[string]func(x impl.Sum) [][]int64 {
	spoiled := func(x impl.Sum, _ int64) [][]int64 {
		lists := listsOf(x)
		clear(x.Terms[:cap(x.Terms)])
		return lists
	}
	calls := map[string]func(x impl.Sum) [][]int64{
		"SumOfWord": func(x impl.Sum) [][]int64 { return spoiled(impl.SumOfWord(x.Prime, x.Terms[0].Word, 1)) },
		"AddSums":   func(x impl.Sum) [][]int64 { return spoiled(impl.AddSums(x, x, x.Prime-2)) },
		"AddSums 0": func(x impl.Sum) [][]int64 { return spoiled(impl.AddSums(x, x, 0)) },
		"AddSums to none": func(x impl.Sum) [][]int64 {
			return spoiled(impl.AddSums(impl.Sum{Prime: x.Prime}, x, 1))
		},
		"JoinSums":     func(x impl.Sum) [][]int64 { return spoiled(impl.JoinSums(x, x)) },
		"JoinSums 1":   func(x impl.Sum) [][]int64 { return spoiled(impl.JoinSums(x, one(x.Prime, "", 1))) },
		"1 JoinSums":   func(x impl.Sum) [][]int64 { return spoiled(impl.JoinSums(one(x.Prime, "", 1), x)) },
		"DerivativeOf": func(x impl.Sum) [][]int64 { return spoiled(impl.DerivativeOf(x)) },
		"CircleSum":    func(x impl.Sum) [][]int64 { return spoiled(impl.CircleSum(x)) },
		"ReflectSum":   func(x impl.Sum) [][]int64 { return spoiled(impl.ReflectSum(x)) },
		"RotateSum":    func(x impl.Sum) [][]int64 { return spoiled(impl.RotateSum(x, 7)) },
		"RotateSum 0":  func(x impl.Sum) [][]int64 { return spoiled(impl.RotateSum(x, 0)) },
		"CoproductOf": func(x impl.Sum) [][]int64 {
			pairs, _ := impl.CoproductOf(x)
			var lists [][]int64
			for _, pair := range pairs {
				lists = append(lists, pair.First, pair.Second)
			}
			return lists
		},
	}
	for n := range int64(4) {
		calls[call("PartOfSum", n)] = func(x impl.Sum) [][]int64 { return spoiled(impl.PartOfSum(x, n)) }
	}
	return calls
}

func TestSumsShareNothing(t *testing.T) {
	for name, get := range sumCalls() {
		for _, x := range []impl.Sum{one(3, "", 2), one(5, "abab", 1), firstOf(7, wordsOfSize(2), 3), mixed(13, wordsUpTo(3), 8, 2)} {
			sum, isUntouched := sumInRoom(x)
			wantNothingShared(t, name+" of "+spelling(x), func() [][]int64 { return get(sum) }, isUntouched)
		}
	}
}

// TestNumbersOfSumsChangeNothing takes the functions that return a number, a bool or a text.
func TestNumbersOfSumsChangeNothing(t *testing.T) {
	for _, x := range mixedSums(11, 4) {
		sum, isUntouched := sumInRoom(x)
		for _, word := range [][]int64{nil, spelt("abab")} {
			w, isWordUntouched := inRoom(word)
			if _, code := impl.CoefficientAt(sum, w); code != impl.ErrNone || !isWordUntouched() {
				t.Errorf("CoefficientAt(%s): code %d, or the word changes", spelling(x), code)
			}
		}
		_, totalCode := impl.TotalOf(sum)
		_, textCode := impl.SumText(sum)
		if !impl.IsSum(sum) || totalCode != impl.ErrNone || textCode != impl.ErrNone {
			t.Errorf("IsSum, TotalOf or SumText refuse %s", spelling(x))
		}
		if !isUntouched() {
			t.Errorf("a number of %s changes the sum or what is behind it", spelling(x))
		}
	}
}

// TestParsedSumsAreNew spoils the words of parsed sums, one at a time.
func TestParsedSumsAreNew(t *testing.T) {
	const text = "1*+2*aa+1*abab+2*abba"
	want, _ := impl.ParseSum(3, text)
	for i := range want.Terms {
		again, code := impl.ParseSum(3, text)
		spoil(again.Terms[i].Word)
		for k := range again.Terms {
			if k != i {
				wantWord(t, call("word of the parsed sum", k), again.Terms[k].Word, code, want.Terms[k].Word)
			}
		}
	}
	back, code := impl.SumText(want)
	wantValue(t, "SumText of the parsed sum", back, code, text)
}

// TestResultsDoNotDependOnChance calls functions that gather their Terms many times.
func TestResultsDoNotDependOnChance(t *testing.T) {
	x := mixed(13, wordsOfSize(5), 15, 1)
	pairs, code := impl.CoproductOf(x)
	derivative, derivativeCode := impl.DerivativeOf(x)
	for range 20 {
		again, _ := impl.CoproductOf(x)
		wantPairs(t, "CoproductOf again", again, code, pairs)
		sum, _ := impl.DerivativeOf(x)
		wantSum(t, "DerivativeOf again", sum, derivativeCode, derivative)
	}
}
