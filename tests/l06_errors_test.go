package tests

import (
	"math"
	"slices"
	"strings"
	"sync"
	"testing"

	"loop.example/g01303/impl"
)

// notWebs are values that are no webs, of all the kinds that the definition excludes.
func notWebs() []impl.Web {
	list := []impl.Web{
		// An edge that stands once, three or four times.
		web([]int64{0}), web([]int64{0, 1}), web([]int64{0, 0, 1}), web([]int64{0, 0, 0}), web([]int64{0, 0, 0, 0}),
		web(nil, []int64{0, 1, 2}), web([]int64{0, 1}, []int64{0, 1, 2}), web([]int64{0, 1, 3}, []int64{0, 1, 2}),
		web([]int64{0}, []int64{0, 0, 0}), web([]int64{0, 0, 1}, []int64{0, 0, 1}), web([]int64{0, 0}, []int64{1, 2, 3}, []int64{1, 2, 4}),
		// Parts without a leg.
		web(nil, []int64{0, 1, 2}, []int64{0, 1, 2}), web(nil, []int64{0, 1, 1}, []int64{0, 2, 2}),
		web([]int64{0, 0}, []int64{1, 2, 3}, []int64{1, 2, 3}), web([]int64{0, 0}, []int64{1, 2, 3}, []int64{3, 2, 1}),
		web([]int64{0, 0}, []int64{1, 1, 2}, []int64{2, 3, 3}), web([]int64{0}, []int64{0, 1, 1}, []int64{2, 3, 4}, []int64{2, 4, 3}),
		web([]int64{0, 1}, []int64{2, 3, 4}, []int64{0, 5, 6}, []int64{4, 3, 2}, []int64{1, 5, 6}),
		// Forks that have not three edges, though each edge stands twice.
		web(nil, nil), web([]int64{0, 0}, nil), web([]int64{0, 0}, []int64{}), web([]int64{0}, []int64{0}), web([]int64{0, 1}, []int64{0, 1}),
		web([]int64{0, 1}, []int64{0, 1, 2, 2}), web([]int64{0, 1, 2, 3}, []int64{0, 1, 2, 3}), web([]int64{0}, []int64{0, 1, 1, 2, 2}),
		web([]int64{0, 1, 2}, []int64{0, 1}, []int64{2}), web([]int64{0, 1}, []int64{0, 1}, []int64{2, 2}), web([]int64{0, 1, 2}, []int64{0, 1, 2}, nil),
		web([]int64{0, 1}, []int64{0, 2}, []int64{2, 1, 3, 3}), web([]int64{0, 1, 2}, []int64{0, 1, 2, 3, 3, 4, 4, 5, 5}), web([]int64{0, 0}, make([]int64, 1<<20)),
		// More than MaxWeb legs and forks.
		{Legs: make([]int64, 1<<20)}, {Forks: make([][]int64, 1<<20)}, web([]int64{0, 0, 1, 1, 2, 2, 3, 3, 4}), {Legs: []int64{0, 0}, Forks: make([][]int64, 7)},
	}
	for _, beyond := range append([]int64{maxEdge + 1, maxEdge + 2, 2 * maxEdge, -2, -maxEdge}, oddNumbers...) {
		if beyond == 14 {
			continue
		}
		list = append(list, web([]int64{beyond, beyond}), web([]int64{0, beyond, beyond, 0}), web([]int64{0}, []int64{0, beyond, beyond}),
			web([]int64{beyond}, []int64{0, 0, beyond}), web([]int64{0, 1, beyond}, []int64{0, beyond, 1}))
	}
	for forks := range 10 {
		list = append(list, chainOfForks(10-forks, forks))
	}
	return list
}

// chainOfForks returns so many legs and forks, more of them than a web has if they are too many: each
// fork stands in the place of the last legs, or makes a loop if there is just one.
func chainOfForks(legs, forks int) impl.Web {
	var w impl.Web
	for edge := range int64(legs+forks) / 2 {
		w.Legs = append(w.Legs, edge, edge)
	}
	for range forks {
		w = forkedByDefinition(w, len(w.Legs)-2)
	}
	return w
}

// webCalls are the calls of webs, told by what they return beside numbers in their ranges or beyond.
func webCalls(k int64) map[string]func(w impl.Web) outcome {
	return map[string]func(w impl.Web) outcome{
		"DegreeOfWeb":  func(w impl.Web) outcome { return valueOutcome(impl.DegreeOfWeb(w)) },
		"PartsOfWeb":   func(w impl.Web) outcome { return valueOutcome(impl.PartsOfWeb(w)) },
		"LoopsOfWeb":   func(w impl.Web) outcome { return valueOutcome(impl.LoopsOfWeb(w)) },
		"ResolveWeb":   func(w impl.Web) outcome { return sumOutcome(impl.ResolveWeb(k, w)) },
		"TurnFork":     func(w impl.Web) outcome { return webOutcome(impl.TurnFork(w, k)) },
		"ExchangeLegs": func(w impl.Web) outcome { return webOutcome(impl.ExchangeLegs(w, k)) },
		"ForkLegs":     func(w impl.Web) outcome { return webOutcome(impl.ForkLegs(w, k)) },
		"ThreeWebs":    func(w impl.Web) outcome { return listOutcome(impl.ThreeWebs(w, k)) },
	}
}

// TestNoWebsAreInvalid takes values that are no webs, beside primes, places and edges that are in
// their ranges and beyond: ErrInvalid comes first.
func TestNoWebsAreInvalid(t *testing.T) {
	for number, bad := range notWebs() {
		name := call(" with no web", number, len(bad.Legs), len(bad.Forks), bad.Legs[:min(len(bad.Legs), 12)])
		if impl.IsWeb(bad) {
			t.Errorf("IsWeb%s = true", name)
		}
		for _, k := range append([]int64{0, 1, 2, 3, 4, 5, 13}, oddNumbers...) {
			for what, get := range webCalls(k) {
				wantCode(t, call(what, k)+name, get(bad), impl.ErrInvalid)
			}
		}
		if t.Failed() {
			return
		}
	}
}

// TestIsWebTakesJustTheWebs takes all ways of joining legs and forks of some shapes.
func TestIsWebTakesJustTheWebs(t *testing.T) {
	for legs := range maxWeb {
		for forks := range maxWeb {
			if (legs+forks)%2 != 0 || legs+3*forks > 10 {
				continue
			}
			for _, w := range pairingsOfShape(legs, forks) {
				if impl.IsWeb(w) != isWebByDefinition(w) {
					t.Errorf("IsWeb(%s) = %v", showWeb(w), impl.IsWeb(w))
				}
			}
		}
	}
	for _, w := range someWebs() {
		if !impl.IsWeb(w) {
			t.Errorf("IsWeb(%s) = false", showWeb(w))
		}
	}
	if impl.MaxWeb != maxWeb {
		t.Errorf("MaxWeb is %d", impl.MaxWeb)
	}
}

// TestListsOfAllSmallNumbersAsWebs takes all lists of three numbers as legs and forks.
func TestListsOfAllSmallNumbersAsWebs(t *testing.T) {
	webs := 0
	for legs := range 3 {
		for forks := range 3 {
			for _, numbers := range listsOfResidues(3, legs+3*forks) {
				w := shaped(numbers, legs)
				if impl.IsWeb(w) != isWebByDefinition(w) {
					t.Errorf("IsWeb(%s) = %v", showWeb(w), impl.IsWeb(w))
				}
				if isWebByDefinition(w) {
					webs++
				}
			}
		}
	}
	// There is one without edges, a chord of each number, and a leg with a fork in which another edge
	// stands twice: 6 choices of both edges, and 3 places of the leg's edge.
	if webs != 1+3+6*3 {
		t.Errorf("there are %d webs", webs)
	}
}

// TestWebsWithOneOtherNumber puts another number at one place of a web, so that an edge stands once,
// or three times, or is beyond its range.
func TestWebsWithOneOtherNumber(t *testing.T) {
	for number, w := range everyOther(someWebs(), 5) {
		lists := len(w.Forks) + 1
		for k := range lists {
			list := slices.Concat([][]int64{w.Legs}, w.Forks)[k]
			for place := range list {
				for _, other := range []int64{list[place] + 1, w.Legs[0], maxEdge - 1, maxEdge, maxEdge + 1, -1, math.MinInt64, math.MaxInt64} {
					changed := copyWeb(w)
					slices.Concat([][]int64{changed.Legs}, changed.Forks)[k][place] = other
					if impl.IsWeb(changed) != isWebByDefinition(changed) {
						t.Fatalf("IsWeb(%s) = %v, web %d", showWeb(changed), impl.IsWeb(changed), number)
					}
				}
			}
		}
	}
}

// TestEdgesAtTheirBounds gives one edge of a web the numbers 0 and 1000, and those beyond.
func TestEdgesAtTheirBounds(t *testing.T) {
	for _, w := range everyOther(smallWebs(), 7) {
		for _, edge := range edgesOfWeb(w) {
			as := func(other int64) impl.Web {
				return renumbered(w, func(each int64) int64 {
					if each == edge {
						return other
					}
					return each + 100
				})
			}
			for _, bound := range []int64{0, 1, maxEdge - 1, maxEdge} {
				if !impl.IsWeb(as(bound)) {
					t.Errorf("IsWeb(%s) = false", showWeb(as(bound)))
				}
			}
			for _, beyond := range []int64{-1, maxEdge + 1, math.MinInt64, math.MaxInt64, -maxEdge, 1<<32 + 5} {
				if impl.IsWeb(as(beyond)) {
					t.Errorf("IsWeb(%s) = true", showWeb(as(beyond)))
				}
			}
		}
	}
}

// TestWebsOfMaxWebLegsAndForks takes webs of each shape of 8 legs and forks together, and of 9 and 10,
// which have all other properties of webs as far as 9 of them can.
func TestWebsOfMaxWebLegsAndForks(t *testing.T) {
	for forks := range maxWeb {
		for seed := range 20 {
			w := mixedWeb(maxWeb-forks, forks, seed)
			if !impl.IsWeb(w) {
				t.Errorf("IsWeb(%s) = false", showWeb(w))
			}
			longer := copyWeb(w)
			longer.Legs = append(longer.Legs, 900)
			wantCode(t, call("DegreeOfWeb", showWeb(longer)), valueOutcome(impl.DegreeOfWeb(longer)), impl.ErrInvalid)
			longer.Legs = append(longer.Legs, 900)
			wantCode(t, call("DegreeOfWeb", showWeb(longer)), valueOutcome(impl.DegreeOfWeb(longer)), impl.ErrInvalid)
			forked := copyWeb(w)
			forked.Legs[0], forked.Forks = 900, append(forked.Forks, []int64{900, w.Legs[0], 901})
			wantCode(t, call("PartsOfWeb", showWeb(forked)), valueOutcome(impl.PartsOfWeb(forked)), impl.ErrInvalid)
			forked.Legs = append(forked.Legs, 901)
			wantCode(t, call("PartsOfWeb", showWeb(forked)), valueOutcome(impl.PartsOfWeb(forked)), impl.ErrInvalid)
		}
	}
}

func TestResolutionsForNoPrimes(t *testing.T) {
	for _, p := range notPrimes {
		for _, w := range append(everyOther(someWebs(), 61), impl.Web{}, web([]int64{0, 0})) {
			wantCode(t, call("ResolveWeb", p, showWeb(w)), sumOutcome(impl.ResolveWeb(p, w)), impl.ErrRange)
		}
	}
}

func TestForksAndLegsOutOfRange(t *testing.T) {
	for _, w := range someWebs() {
		legs, forks := int64(len(w.Legs)), int64(len(w.Forks))
		for _, k := range append([]int64{forks, forks + 1, legs + forks}, oddNumbers...) {
			if k >= forks || k < 0 {
				wantCode(t, call("TurnFork", showWeb(w), k), webOutcome(impl.TurnFork(w, k)), impl.ErrRange)
			}
		}
		for _, k := range append([]int64{legs - 1, legs, legs + 1, legs + forks}, oddNumbers...) {
			if k >= legs-1 || k < 0 {
				wantCode(t, call("ExchangeLegs", showWeb(w), k), webOutcome(impl.ExchangeLegs(w, k)), impl.ErrRange)
				wantCode(t, call("ForkLegs", showWeb(w), k), webOutcome(impl.ForkLegs(w, k)), impl.ErrRange)
			}
		}
	}
	// A web with one leg has no two of them.
	tadpole := web([]int64{0}, []int64{0, 1, 1})
	wantCode(t, "ExchangeLegs of one leg", webOutcome(impl.ExchangeLegs(tadpole, 0)), impl.ErrRange)
	wantCode(t, "ForkLegs of one leg", webOutcome(impl.ForkLegs(tadpole, 0)), impl.ErrRange)
}

// TestEdgesInNoTwoForks takes edges that join legs, a leg and a fork, that stand in one fork twice,
// that are not there, and numbers that no edge has.
func TestEdgesInNoTwoForks(t *testing.T) {
	w := web([]int64{0, 0, 1, 2, 5}, []int64{1, 2, 3}, []int64{3, 4, 6}, []int64{4, 5, 6})
	for _, e := range append([]int64{0, 1, 2, 5, 7, 8, 999, maxEdge, maxEdge + 1, -2}, oddNumbers...) {
		wantCode(t, call("ThreeWebs", showWeb(w), e), listOutcome(impl.ThreeWebs(w, e)), impl.ErrState)
	}
	for _, e := range []int64{3, 4, 6} {
		others, code := impl.ThreeWebs(w, e)
		if code != impl.ErrNone || !slices.EqualFunc(others, threeByDefinition(w, e), equalWebs) {
			t.Errorf("ThreeWebs(%s, %d) = %v, code %d", showWeb(w), e, others, code)
		}
	}
	for _, fork := range [][]int64{{0, 1, 1}, {1, 0, 1}, {1, 1, 0}} {
		for _, e := range []int64{0, 1} {
			wantCode(t, call("ThreeWebs", fork, e), listOutcome(impl.ThreeWebs(web([]int64{0}, fork), e)), impl.ErrState)
		}
	}
	for _, e := range oddNumbers {
		for _, w := range everyOther(smallWebs(), 9) {
			wantCode(t, call("ThreeWebs", showWeb(w), e), listOutcome(impl.ThreeWebs(w, e)), impl.ErrState)
		}
	}
}

func TestNamesThatAreNone(t *testing.T) {
	names := []string{
		"", " ", "0", "web", "legs", "word", "Chord", "CHORD", "chords", "chor", "hord", " chord", "chord ", "chord\n", "chord\x00", "\x00chord",
		"Fork", "forks", "for", "fork fork", "rin", "rings", "Ring", "bridg", "bridges", "brigde", "whee", "wheels", "com", "combs", "cοmb",
		"forkring", "fork,ring", "\xff", "fork\xff", strings.Repeat("chord", 1<<16),
	}
	for _, name := range names {
		wantCode(t, call("NamedWeb", name[:min(len(name), 40)]), webOutcome(impl.NamedWeb(name)), impl.ErrNotFound)
	}
}

// TestWebsOfNoWords takes lists that are no words, and words of more than 4 chords.
func TestWebsOfNoWords(t *testing.T) {
	for _, bad := range notWords() {
		wantCode(t, call("WebOfWord", bad[:min(len(bad), 20)]), webOutcome(impl.WebOfWord(bad)), impl.ErrInvalid)
		if t.Failed() {
			return
		}
	}
	for _, w := range slices.Concat(wordsOfSize(5), wordsOfSize(impl.MaxChords)) {
		wantCode(t, call("WebOfWord", letters(w)), webOutcome(impl.WebOfWord(w)), impl.ErrLimit)
	}
	// Lists that are as long and no words are invalid.
	for _, w := range everyOther(wordsOfSize(5), 50) {
		other := slices.Clone(w)
		slices.Reverse(other)
		other[0]++
		wantCode(t, call("WebOfWord", other), webOutcome(impl.WebOfWord(other)), impl.ErrInvalid)
	}
}

// websFrom are the calls that return webs or sums, told by all lists of their results.
func websFrom() map[string]func(w impl.Web) [][]int64 {
	single := func(w impl.Web, _ int64) [][]int64 { return listsOfWeb(w) }
	return map[string]func(w impl.Web) [][]int64{
		"TurnFork":     func(w impl.Web) [][]int64 { return single(impl.TurnFork(w, int64(len(w.Forks)-1))) },
		"ExchangeLegs": func(w impl.Web) [][]int64 { return single(impl.ExchangeLegs(w, 0)) },
		"ForkLegs":     func(w impl.Web) [][]int64 { return single(impl.ForkLegs(w, 0)) },
		"ResolveWeb": func(w impl.Web) [][]int64 {
			resolution, _ := impl.ResolveWeb(7, w)
			lists := listsOf(resolution)
			clear(resolution.Terms[:cap(resolution.Terms)])
			return lists
		},
		"ThreeWebs": func(w impl.Web) [][]int64 {
			var lists [][]int64
			for _, e := range edgesOfWeb(w) {
				others, _ := impl.ThreeWebs(w, e)
				for _, other := range others {
					lists = append(lists, listsOfWeb(other)...)
				}
				clear(others[:cap(others)])
			}
			return lists
		},
	}
}

func TestWebsShareNothing(t *testing.T) {
	for name, get := range websFrom() {
		for _, w := range append(everyOther(someWebs(), 17), impl.Web{}) {
			inside, isUntouched := webInRoom(w)
			wantNothingShared(t, name+" of "+showWeb(w), func() [][]int64 { return get(inside) }, isUntouched)
		}
	}
	for _, word := range wordsUpTo(4) {
		inside, isUntouched := inRoom(word)
		wantNothingShared(t, "WebOfWord of "+letters(word), func() [][]int64 {
			w, _ := impl.WebOfWord(inside)
			return listsOfWeb(w)
		}, isUntouched)
	}
	for _, name := range []string{"chord", "fork", "ring", "bridge", "wheel", "comb"} {
		wantNothingShared(t, "NamedWeb "+name, func() [][]int64 {
			w, _ := impl.NamedWeb(name)
			return listsOfWeb(w)
		}, func() bool { return true })
	}
}

// TestNumbersOfWebsChangeNothing takes the functions that return a number, those that fail, and values
// that are no webs.
func TestNumbersOfWebsChangeNothing(t *testing.T) {
	for _, w := range slices.Concat(everyOther(someWebs(), 13), notWebs()[:30]) {
		inside, isUntouched := webInRoom(w)
		impl.IsWeb(inside)
		for _, k := range []int64{0, 1, 2, 7, 900, -1} {
			for _, get := range webCalls(k) {
				get(inside)
			}
		}
		if !isUntouched() {
			t.Errorf("a function of webs changes %s or what is behind it", showWeb(w))
		}
	}
}

// TestForksThatShareMemory takes webs whose forks and legs lie in one list.
func TestForksThatShareMemory(t *testing.T) {
	numbers := []int64{0, 1, 2, 3, 0, 1, 4, 4, 2, 3}
	w := web(numbers[:4], numbers[4:7], numbers[7:10])
	apart := copyWeb(w)
	for k := range int64(3) {
		exchanged, code := impl.ExchangeLegs(w, k)
		wantWeb(t, call("ExchangeLegs", k), exchanged, code, exchangedByDefinition(apart, int(k)))
		forked, code := impl.ForkLegs(w, k)
		wantWeb(t, call("ForkLegs", k), forked, code, forkedByDefinition(apart, int(k)))
	}
	turned, code := impl.TurnFork(w, 0)
	wantWeb(t, "TurnFork", turned, code, turnedByDefinition(apart, 0))
	if !equalWebs(w, apart) {
		t.Errorf("%s is changed", showWeb(w))
	}
}

// TestWebsAtTheSameTime opens webs, and values that are none, at the same time.
func TestWebsAtTheSameTime(t *testing.T) {
	var callers sync.WaitGroup
	for _, w := range everyOther(someWebs(), 29) {
		want := sumByDefinition(11, resolutionByDefinition(w))
		for range 5 {
			callers.Go(func() {
				resolution, code := impl.ResolveWeb(11, w)
				wantSum(t, call("ResolveWeb again", showWeb(w)), resolution, code, want)
				wantCode(t, "DegreeOfWeb of no web", valueOutcome(impl.DegreeOfWeb(web([]int64{0}))), impl.ErrInvalid)
			})
		}
	}
	callers.Wait()
}
