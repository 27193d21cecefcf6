package tests

import (
	"slices"
	"testing"

	"loop.example/g01303/impl"
)

// primesFor returns all primes for short webs, and one of them for longer ones.
func primesFor(w impl.Web, number int) []int64 {
	if len(w.Legs)+len(w.Forks) <= 4 && number%4 == 0 {
		return primes
	}
	return primes[number%len(primes):][:1]
}

func TestDegreesAreThoseOfResolutions(t *testing.T) {
	for number, w := range someWebs() {
		degree, code := impl.DegreeOfWeb(w)
		wantValue(t, call("DegreeOfWeb", showWeb(w)), degree, code, int64(len(w.Legs)+len(w.Forks))/2)
		for _, p := range primesFor(w, number) {
			for _, term := range mustResolve(t, p, w).Terms {
				if int64(len(term.Word)) != 2*degree {
					t.Errorf("ResolveWeb(%d, %s) has %s, the degree is %d", p, showWeb(w), letters(term.Word), degree)
				}
			}
		}
	}
}

func TestForkedLegsHaveTheDifferenceAsResolution(t *testing.T) {
	for number, w := range someWebs() {
		for k := range len(w.Legs) - 1 {
			forked, code := impl.ForkLegs(w, int64(k))
			wantWeb(t, call("ForkLegs", showWeb(w), k), forked, code, forkedByDefinition(w, k))
			exchanged, code := impl.ExchangeLegs(w, int64(k))
			wantWeb(t, call("ExchangeLegs", showWeb(w), k), exchanged, code, exchangedByDefinition(w, k))
			for _, p := range primesFor(w, number+k) {
				difference := minus(t, mustResolve(t, p, w), mustResolve(t, p, exchanged))
				wantEqualModulo(t, call("ForkLegs", p, showWeb(w), k), mustResolve(t, p, forked), difference)
			}
		}
	}
}

func TestTurnedForksHaveOppositeResolutions(t *testing.T) {
	for number, w := range someWebs() {
		for k := range w.Forks {
			turned, code := impl.TurnFork(w, int64(k))
			wantWeb(t, call("TurnFork", showWeb(w), k), turned, code, turnedByDefinition(w, k))
			for _, p := range primesFor(w, number+k) {
				opposite := minus(t, impl.Sum{Prime: p}, mustResolve(t, p, w))
				wantEqualModulo(t, call("TurnFork", p, showWeb(w), k), mustResolve(t, p, turned), opposite)
			}
		}
	}
}

func TestTheFirstOfThreeWebsIsTheSumOfTheOthers(t *testing.T) {
	for number, w := range someWebs() {
		for _, e := range edgesOfWeb(w) {
			want := threeByDefinition(w, e)
			if want == nil {
				continue
			}
			others, code := impl.ThreeWebs(w, e)
			if len(others) != 2 || code != impl.ErrNone {
				t.Fatalf("ThreeWebs(%s, %d) = %v, code %d", showWeb(w), e, others, code)
			}
			wantWeb(t, call("ThreeWebs second", showWeb(w), e), others[0], code, want[0])
			wantWeb(t, call("ThreeWebs third", showWeb(w), e), others[1], code, want[1])
			for _, p := range primesFor(w, number+int(e)) {
				sum := mustAdd(t, mustResolve(t, p, others[0]), mustResolve(t, p, others[1]))
				wantEqualModulo(t, call("ThreeWebs", p, showWeb(w), e), mustResolve(t, p, w), sum)
			}
		}
	}
}

// TestReducedResolutionsAreEqualModuloRelations takes sums that resolutions lead to, and others.
func TestReducedResolutionsAreEqualModuloRelations(t *testing.T) {
	for number, w := range someWebs() {
		for _, p := range primesFor(w, number) {
			resolution := mustResolve(t, p, w)
			wantEqualModulo(t, call("reduced resolution", p, showWeb(w)), mustReduce(t, resolution), resolution)
		}
	}
	for _, p := range primes {
		for _, x := range orderedSums(p) {
			wantEqualModulo(t, call("reduced sum", spelling(x)), mustReduce(t, x), x)
		}
	}
}

// TestResolutionsAreNotAllEqual shows that the promises say something: webs have different
// resolutions modulo relations.
func TestResolutionsAreNotAllEqual(t *testing.T) {
	for _, p := range primes {
		fork := mustResolve(t, p, web([]int64{0, 1, 2}, []int64{0, 1, 2}))
		areEqual, code := impl.AreEqualModulo(fork, impl.Sum{Prime: p})
		wantValue(t, call("AreEqualModulo of fork and none", p), areEqual, code, false)
		turned := mustResolve(t, p, web([]int64{0, 1, 2}, []int64{0, 2, 1}))
		areEqual, code = impl.AreEqualModulo(fork, turned)
		wantValue(t, call("AreEqualModulo of fork and fork turned", p), areEqual, code, p == 2)
	}
	different := map[string]bool{}
	for _, w := range someWebs() {
		different[spelling(mustReduce(t, mustResolve(t, 13, w)))] = true
	}
	if len(different) < 50 {
		t.Errorf("the webs have just %d resolutions", len(different))
	}
}

func TestResolutionsByDefinition(t *testing.T) {
	for number, w := range someWebs() {
		resolution := resolutionByDefinition(w)
		for _, p := range primesFor(w, number) {
			got, code := impl.ResolveWeb(p, w)
			wantSum(t, call("ResolveWeb", p, showWeb(w)), got, code, sumByDefinition(p, resolution))
		}
	}
}

// TestResolutionsForEachPrime writes them down for the webs with names. The coefficients of ring are
// 0 for 2.
func TestResolutionsForEachPrime(t *testing.T) {
	for name, want := range map[string]plain{
		"chord":  {"aa": 1},
		"fork":   {"abab": 1, "abba": -1},
		"ring":   {"abba": 2, "abab": -2},
		"bridge": {"abcabc": 1, "abcacb": -1, "abccab": -1, "abccba": 1},
		"wheel":  {"abccab": 1, "abcacb": 1, "abcabc": -1, "abccba": -1},
		"comb": {
			"abcdabcd": 1, "abcdabdc": -1, "abcdadbc": -1, "abcdadcb": 1,
			"abcddabc": -1, "abcddacb": 1, "abcddcab": 1, "abcddcba": -1,
		},
	} {
		w, code := impl.NamedWeb(name)
		for _, p := range primes {
			wantSum(t, call("ResolveWeb", p, name, code), mustResolve(t, p, w), code, sumByDefinition(p, want))
		}
	}
}

// TestResolutionsDoNotDependOnNumbersOfEdges gives edges other numbers.
func TestResolutionsDoNotDependOnNumbersOfEdges(t *testing.T) {
	for number, w := range someWebs() {
		p := primes[number%len(primes)]
		other := renumbered(w, func(edge int64) int64 { return maxEdge - edge })
		wantSum(t, call("ResolveWeb", p, showWeb(other)), mustResolve(t, p, other), 0, mustResolve(t, p, w))
	}
}

// TestForksReadAround begins forks at another one of their numbers, which changes no resolution.
func TestForksReadAround(t *testing.T) {
	for number, w := range everyOther(someWebs(), 3) {
		for k, fork := range w.Forks {
			// Where an edge stands twice in a fork, it is never read from there.
			other := copyWeb(w)
			other.Forks[k] = []int64{fork[1], fork[2], fork[0]}
			p := primes[number%len(primes)]
			wantSum(t, call("ResolveWeb", p, showWeb(other)), mustResolve(t, p, other), 0, mustResolve(t, p, w))
		}
	}
}

func TestPartsAndLoopsByDefinition(t *testing.T) {
	for _, w := range someWebs() {
		want, _ := webPartsByDefinition(w)
		parts, code := impl.PartsOfWeb(w)
		wantValue(t, call("PartsOfWeb", showWeb(w)), parts, code, want)
		loops, code := impl.LoopsOfWeb(w)
		wantValue(t, call("LoopsOfWeb", showWeb(w)), loops, code, int64(len(edgesOfWeb(w))-len(w.Legs)-len(w.Forks))+want)
	}
}

// TestPartsAndLoopsOfSomeWebs writes them down.
func TestPartsAndLoopsOfSomeWebs(t *testing.T) {
	for _, c := range []struct {
		web                  impl.Web
		degree, parts, loops int64
	}{
		{web(nil), 0, 0, 0},
		{web([]int64{7, 7}), 1, 1, 0},
		{web([]int64{0, 1, 0, 1}), 2, 2, 0},
		{web([]int64{0, 1, 2, 3, 3, 2, 1, 0}), 4, 4, 0},
		{web([]int64{0}, []int64{0, 1, 1}), 1, 1, 1},
		{web([]int64{1000}, []int64{0, 1000, 0}), 1, 1, 1},
		{web([]int64{0, 1}, []int64{0, 2, 2}, []int64{1, 3, 3}), 2, 2, 2},
		{web([]int64{0, 1}, []int64{0, 2, 3}, []int64{1, 2, 3}), 2, 1, 1},
		{web([]int64{0, 0, 1}, []int64{2, 1, 2}), 2, 2, 1},
		{web([]int64{0, 3, 1, 3, 2}, []int64{0, 1, 2}), 3, 2, 0},
		{web([]int64{0, 1, 2, 3, 4, 5}, []int64{5, 0, 3}, []int64{1, 2, 4}), 4, 2, 0},
		{web([]int64{0}, []int64{0, 1, 2}, []int64{1, 2, 3}, []int64{3, 4, 4}), 2, 1, 2},
		{web([]int64{0}, []int64{0, 1, 2}, []int64{1, 3, 4}, []int64{2, 3, 4}), 2, 1, 2},
		{web([]int64{0}, []int64{0, 1, 2}, []int64{1, 3, 4}, []int64{2, 3, 5}, []int64{4, 6, 7}, []int64{5, 6, 8}, []int64{7, 9, 10}, []int64{8, 9, 10}), 4, 1, 4},
	} {
		degree, code := impl.DegreeOfWeb(c.web)
		wantValue(t, call("DegreeOfWeb", showWeb(c.web)), degree, code, c.degree)
		parts, code := impl.PartsOfWeb(c.web)
		wantValue(t, call("PartsOfWeb", showWeb(c.web)), parts, code, c.parts)
		loops, code := impl.LoopsOfWeb(c.web)
		wantValue(t, call("LoopsOfWeb", showWeb(c.web)), loops, code, c.loops)
	}
}

// TestTheWebWithoutLegsAndForks takes it with nil and with empty lists that have room behind them.
func TestTheWebWithoutLegsAndForks(t *testing.T) {
	for _, none := range []impl.Web{{}, {Legs: []int64{}, Forks: [][]int64{}}, {Legs: make([]int64, 0, 9), Forks: make([][]int64, 0, 9)}} {
		if !impl.IsWeb(none) {
			t.Errorf("IsWeb(%s) = false", showWeb(none))
		}
		for name, count := range map[string]func(impl.Web) (int64, int64){
			"DegreeOfWeb": impl.DegreeOfWeb, "PartsOfWeb": impl.PartsOfWeb, "LoopsOfWeb": impl.LoopsOfWeb,
		} {
			number, code := count(none)
			wantValue(t, name+" without legs and forks", number, code, 0)
		}
		for _, p := range primes {
			wantSum(t, "ResolveWeb without legs and forks", mustResolve(t, p, none), 0, one(p, "", 1))
		}
		wantCode(t, "TurnFork without forks", webOutcome(impl.TurnFork(none, 0)), impl.ErrRange)
		wantCode(t, "ExchangeLegs without legs", webOutcome(impl.ExchangeLegs(none, 0)), impl.ErrRange)
		wantCode(t, "ForkLegs without legs", webOutcome(impl.ForkLegs(none, 0)), impl.ErrRange)
		wantCode(t, "ThreeWebs without forks", listOutcome(impl.ThreeWebs(none, 0)), impl.ErrState)
	}
}

func TestWebsThatAreWords(t *testing.T) {
	for number, w := range wordsUpTo(4) {
		fromWord, code := impl.WebOfWord(w)
		wantWeb(t, call("WebOfWord", letters(w)), fromWord, code, web(w))
		parts, code := impl.PartsOfWeb(fromWord)
		wantValue(t, call("PartsOfWeb", letters(w)), parts, code, int64(len(w)/2))
		for _, p := range primesFor(fromWord, number) {
			wantSum(t, call("ResolveWeb", p, letters(w)), mustResolve(t, p, fromWord), 0, one(p, letters(w), 1))
			// The numbers of edges need not be normal.
			other := renumbered(fromWord, fromTheTop)
			wantSum(t, call("ResolveWeb", p, showWeb(other)), mustResolve(t, p, other), 0, one(p, letters(w), 1))
		}
	}
	for _, none := range [][]int64{nil, {}, make([]int64, 0, 12)} {
		fromWord, code := impl.WebOfWord(none)
		wantWeb(t, "WebOfWord of no chords", fromWord, code, impl.Web{})
	}
}

func TestForksTurnedAndLegsExchangedTwice(t *testing.T) {
	for _, w := range someWebs() {
		for k := range w.Forks {
			turned, code := impl.TurnFork(w, int64(k))
			wantWeb(t, call("TurnFork", showWeb(w), k), turned, code, turnedByDefinition(w, k))
			again, code := impl.TurnFork(turned, int64(k))
			wantWeb(t, call("TurnFork twice", showWeb(w), k), again, code, w)
		}
		for k := range len(w.Legs) - 1 {
			exchanged, _ := impl.ExchangeLegs(w, int64(k))
			again, code := impl.ExchangeLegs(exchanged, int64(k))
			wantWeb(t, call("ExchangeLegs twice", showWeb(w), k), again, code, w)
		}
	}
}

// TestTheFirstAndTheLastLegs exchanges and forks them in webs that are written down.
func TestTheFirstAndTheLastLegs(t *testing.T) {
	w := web([]int64{4, 1, 9, 0, 4}, []int64{9, 0, 1})
	for _, c := range []struct {
		k                 int64
		exchanged, forked impl.Web
	}{
		{0, web([]int64{1, 4, 9, 0, 4}, []int64{9, 0, 1}), web([]int64{2, 9, 0, 4}, []int64{9, 0, 1}, []int64{2, 4, 1})},
		{3, web([]int64{4, 1, 9, 4, 0}, []int64{9, 0, 1}), web([]int64{4, 1, 9, 2}, []int64{9, 0, 1}, []int64{2, 0, 4})},
	} {
		exchanged, code := impl.ExchangeLegs(w, c.k)
		wantWeb(t, call("ExchangeLegs", showWeb(w), c.k), exchanged, code, c.exchanged)
		forked, code := impl.ForkLegs(w, c.k)
		wantWeb(t, call("ForkLegs", showWeb(w), c.k), forked, code, c.forked)
	}
	// An edge that joins both legs stands twice in the fork then.
	forked, code := impl.ForkLegs(web([]int64{0, 0}), 0)
	wantWeb(t, "ForkLegs of a chord", forked, code, web([]int64{1}, []int64{1, 0, 0}))
	wantSum(t, "ResolveWeb of a forked chord", mustResolve(t, 5, forked), 0, impl.Sum{Prime: 5})
}

// TestTheLeastNewEdge takes gaps at the beginning, between edges and at the end.
func TestTheLeastNewEdge(t *testing.T) {
	for _, c := range []struct {
		legs []int64
		want int64
	}{
		{[]int64{0, 0}, 1}, {[]int64{1, 1}, 0}, {[]int64{1000, 1000}, 0}, {[]int64{0, 2, 0, 2}, 1}, {[]int64{2, 0, 0, 2}, 1},
		{[]int64{0, 1, 2, 3, 0, 1, 2, 3}, 4}, {[]int64{1, 0, 3, 1, 3, 0}, 2}, {[]int64{1000, 0, 0, 1000}, 1}, {[]int64{5, 4, 5, 4}, 0},
	} {
		for k := range len(c.legs) - 1 {
			forked, code := impl.ForkLegs(web(c.legs), int64(k))
			want := web(slices.Concat(c.legs[:k], []int64{c.want}, c.legs[k+2:]), []int64{c.want, c.legs[k], c.legs[k+1]})
			wantWeb(t, call("ForkLegs", c.legs, k), forked, code, want)
		}
	}
	// The edges of forks count as well as those of legs.
	w := web([]int64{0, 5}, []int64{0, 1, 2}, []int64{5, 2, 1})
	forked, code := impl.ForkLegs(w, 0)
	wantWeb(t, call("ForkLegs", showWeb(w)), forked, code, web([]int64{3}, []int64{0, 1, 2}, []int64{5, 2, 1}, []int64{3, 0, 5}))
}

// TestLegsForkedUntilOneIsLeft makes webs of all shapes of MaxWeb legs and forks out of words.
func TestLegsForkedUntilOneIsLeft(t *testing.T) {
	for number, word := range everyOther(wordsOfSize(4), 7) {
		w := web(word)
		for step := 0; len(w.Legs) > 1; step++ {
			k := (number + 3*step) % (len(w.Legs) - 1)
			forked, code := impl.ForkLegs(w, int64(k))
			wantWeb(t, call("ForkLegs", showWeb(w), k), forked, code, forkedByDefinition(w, k))
			if len(forked.Legs) != len(w.Legs)-1 || len(forked.Legs)+len(forked.Forks) != maxWeb {
				t.Fatalf("ForkLegs(%s, %d) = %s", showWeb(w), k, showWeb(forked))
			}
			w = forked
		}
		degree, code := impl.DegreeOfWeb(w)
		wantValue(t, call("DegreeOfWeb", showWeb(w)), degree, code, 4)
	}
}

// TestThreeWebsOfEdges takes edges of all kinds: those in two different forks, and others.
func TestThreeWebsOfEdges(t *testing.T) {
	for _, w := range someWebs() {
		for _, e := range append(edgesOfWeb(w), 0, 1, 2, 11, 500, 999, 1000) {
			want := threeByDefinition(w, e)
			others, code := impl.ThreeWebs(w, e)
			if want == nil {
				wantCode(t, call("ThreeWebs", showWeb(w), e), listOutcome(others, code), impl.ErrState)
				continue
			}
			if !slices.EqualFunc(others, want, equalWebs) || code != impl.ErrNone {
				t.Errorf("ThreeWebs(%s, %d) = %v, code %d; want %v", showWeb(w), e, others, code, want)
			}
		}
	}
}

// TestThreeWebsThatAreWrittenDown has the edge at each place of both forks.
func TestThreeWebsThatAreWrittenDown(t *testing.T) {
	legs := []int64{0, 1, 2, 3}
	second := []impl.Web{web(legs, []int64{4, 3, 0}, []int64{4, 1, 2})}
	third := []impl.Web{web(legs, []int64{4, 3, 1}, []int64{4, 2, 0})}
	for _, first := range [][]int64{{4, 0, 1}, {0, 1, 4}, {1, 4, 0}} {
		for _, later := range [][]int64{{4, 2, 3}, {2, 3, 4}, {3, 4, 2}} {
			others, code := impl.ThreeWebs(web(legs, first, later), 4)
			if code != impl.ErrNone || !slices.EqualFunc(others, append(second, third...), equalWebs) {
				t.Errorf("ThreeWebs of %v and %v = %v, code %d", first, later, others, code)
			}
		}
	}
	// A fork between both of them stays, and so do those ahead and behind.
	w := web([]int64{0, 1}, []int64{9, 9, 0}, []int64{1, 2, 3}, []int64{4, 5, 2}, []int64{5, 3, 4})
	others, code := impl.ThreeWebs(w, 3)
	want := []impl.Web{
		web([]int64{0, 1}, []int64{9, 9, 0}, []int64{3, 5, 1}, []int64{4, 5, 2}, []int64{3, 2, 4}),
		web([]int64{0, 1}, []int64{9, 9, 0}, []int64{3, 5, 2}, []int64{4, 5, 2}, []int64{3, 4, 1}),
	}
	if code != impl.ErrNone || !slices.EqualFunc(others, want, equalWebs) {
		t.Errorf("ThreeWebs(%s, 3) = %v, code %d; want %v", showWeb(w), others, code, want)
	}
}

// TestNamedWebs writes all of them down.
func TestNamedWebs(t *testing.T) {
	for name, c := range map[string]struct {
		web                  impl.Web
		degree, parts, loops int64
	}{
		"chord":  {web([]int64{0, 0}), 1, 1, 0},
		"fork":   {web([]int64{0, 1, 2}, []int64{0, 1, 2}), 2, 1, 0},
		"ring":   {web([]int64{0, 1}, []int64{0, 2, 3}, []int64{1, 3, 2}), 2, 1, 1},
		"bridge": {web([]int64{0, 1, 2, 3}, []int64{0, 1, 4}, []int64{4, 2, 3}), 3, 1, 0},
		"wheel":  {web([]int64{0, 1, 2}, []int64{0, 3, 5}, []int64{1, 4, 3}, []int64{2, 5, 4}), 3, 1, 1},
		"comb":   {web([]int64{0, 1, 2, 3, 4}, []int64{0, 1, 5}, []int64{5, 2, 6}, []int64{6, 3, 4}), 4, 1, 0},
	} {
		w, code := impl.NamedWeb(name)
		wantWeb(t, call("NamedWeb", name), w, code, c.web)
		degree, code := impl.DegreeOfWeb(w)
		wantValue(t, "DegreeOfWeb of "+name, degree, code, c.degree)
		parts, code := impl.PartsOfWeb(w)
		wantValue(t, "PartsOfWeb of "+name, parts, code, c.parts)
		loops, code := impl.LoopsOfWeb(w)
		wantValue(t, "LoopsOfWeb of "+name, loops, code, c.loops)
	}
}

func TestResolutionOfTheExample(t *testing.T) {
	fork, code := impl.NamedWeb("fork")
	wantWeb(t, "NamedWeb(fork)", fork, code, web([]int64{0, 1, 2}, []int64{0, 1, 2}))
	text, code := impl.SumText(mustResolve(t, 5, fork))
	wantValue(t, "ResolveWeb of fork for 5", text, code, "1*abab+4*abba")
}
