package tests

import (
	"fmt"
	"slices"
	"sync"
	"testing"

	"loop.example/g01303/impl"
)

// maxWeb is MaxWeb of chapter 6 as the document tells it, and maxEdge the greatest number of an edge.
const (
	maxWeb  = 8
	maxEdge = 1000
)

// web returns the web with legs and forks.
func web(legs []int64, forks ...[]int64) impl.Web { return impl.Web{Legs: legs, Forks: forks} }

// showWeb names a web for messages.
func showWeb(w impl.Web) string { return fmt.Sprintf("legs %v forks %v", w.Legs, w.Forks) }

// equalWebs reports whether two webs have the same legs and forks in the same order.
func equalWebs(v, w impl.Web) bool {
	return slices.Equal(v.Legs, w.Legs) && slices.EqualFunc(v.Forks, w.Forks, slices.Equal)
}

// copyWeb returns a web in memory of its own.
func copyWeb(w impl.Web) impl.Web {
	copied := impl.Web{Legs: slices.Clone(w.Legs)}
	for _, fork := range w.Forks {
		copied.Forks = append(copied.Forks, slices.Clone(fork))
	}
	return copied
}

// placesOfWeb lists the numbers of edges at all places.
func placesOfWeb(w impl.Web) []int64 { return slices.Concat(w.Legs, slices.Concat(w.Forks...)) }

// edgesOfWeb lists the edges, each once, ascending.
func edgesOfWeb(w impl.Web) []int64 {
	edges := placesOfWeb(w)
	slices.Sort(edges)
	return slices.Compact(edges)
}

// classesByDefinition makes legs and forks that an edge joins one class, told by the least number of
// a leg or fork that is known of it, until nothing changes. Legs have the first numbers.
func classesByDefinition(w impl.Web) []int {
	var items [][]int64
	for _, leg := range w.Legs {
		items = append(items, []int64{leg})
	}
	items = append(items, w.Forks...)
	class := make([]int, len(items))
	for i := range class {
		class[i] = i
	}
	for isNew := true; isNew; {
		isNew = false
		for i, a := range items {
			for k, b := range items {
				isJoined := slices.ContainsFunc(a, func(edge int64) bool { return slices.Contains(b, edge) })
				if isJoined && class[i] != class[k] {
					class[i], class[k] = min(class[i], class[k]), min(class[i], class[k])
					isNew = true
				}
			}
		}
	}
	return class
}

// webPartsByDefinition returns how many parts there are, and whether each one has a leg.
func webPartsByDefinition(w impl.Web) (int64, bool) {
	class := classesByDefinition(w)
	withLeg := class[:len(w.Legs)]
	haveLegs := !slices.ContainsFunc(class, func(part int) bool { return !slices.Contains(withLeg, part) })
	slices.Sort(class)
	return int64(len(slices.Compact(class))), haveLegs
}

// isWebByDefinition takes one condition after the other.
func isWebByDefinition(w impl.Web) bool {
	if len(w.Legs)+len(w.Forks) > maxWeb {
		return false
	}
	for _, fork := range w.Forks {
		if len(fork) != 3 {
			return false
		}
	}
	places := placesOfWeb(w)
	for _, edge := range places {
		times := 0
		for _, other := range places {
			if other == edge {
				times++
			}
		}
		if times != 2 || edge < 0 || edge > maxEdge {
			return false
		}
	}
	_, haveLegs := webPartsByDefinition(w)
	return haveLegs
}

// shaped lays numbers on so many legs, and on forks by threes.
func shaped(numbers []int64, legs int) impl.Web {
	w := impl.Web{Legs: slices.Clone(numbers[:legs])}
	for fork := range slices.Chunk(numbers[legs:], 3) {
		w.Forks = append(w.Forks, slices.Clone(fork))
	}
	return w
}

// pairingsOfShape lists all ways of joining the places of so many legs and forks by edges, those
// with parts without legs among them.
func pairingsOfShape(legs, forks int) []impl.Web {
	var list []impl.Web
	for _, numbers := range wordsOfSize((legs + 3*forks) / 2) {
		list = append(list, shaped(numbers, legs))
	}
	return list
}

// websOfShape lists all webs of so many legs and forks, up to the numbers of edges.
func websOfShape(legs, forks int) []impl.Web {
	return slices.DeleteFunc(pairingsOfShape(legs, forks), func(w impl.Web) bool { return !isWebByDefinition(w) })
}

// mixedWeb returns a web of so many legs and forks, told by a seed.
func mixedWeb(legs, forks, seed int) impl.Web {
	numbers := make([]int64, legs+3*forks)
	for place := range numbers {
		numbers[place] = int64(place / 2)
	}
	for state := uint64(seed)*2654435761 + 12345; ; {
		for place := range numbers {
			state = state*6364136223846793005 + 1442695040888963407
			other := int(state>>33) % (place + 1)
			numbers[place], numbers[other] = numbers[other], numbers[place]
		}
		if w := shaped(numbers, legs); isWebByDefinition(w) {
			return w
		}
	}
}

// renumbered returns a web with other numbers of edges.
func renumbered(w impl.Web, number func(edge int64) int64) impl.Web {
	other := copyWeb(w)
	for _, list := range append([][]int64{other.Legs}, other.Forks...) {
		for place, edge := range list {
			list[place] = number(edge)
		}
	}
	return other
}

// withGaps and fromTheTop are numbers of edges in another order, with gaps between them.
func withGaps(edge int64) int64   { return (7*edge + 3) % 29 }
func fromTheTop(edge int64) int64 { return maxEdge - 3*edge }

// smallWebs has all webs of at most 4 legs and forks together, up to the numbers of edges.
var smallWebs = sync.OnceValue(func() []impl.Web {
	var list []impl.Web
	for size := 0; size <= 4; size += 2 {
		for forks := range size + 1 {
			list = append(list, websOfShape(size-forks, forks)...)
		}
	}
	return list
})

// someWebs has all small webs, and some of each shape that there is up to MaxWeb legs and forks
// together. One third of them has edges with gaps between their numbers, another one great numbers.
var someWebs = sync.OnceValue(func() []impl.Web {
	list := slices.Concat(smallWebs(), websOfShape(6, 0), websOfShape(5, 1), websOfShape(4, 2), websOfShape(8, 0),
		everyOther(websOfShape(7, 1), 7), everyOther(websOfShape(3, 3), 23))
	for size := 6; size <= maxWeb; size += 2 {
		for forks := range size {
			for seed := range 40 {
				list = append(list, mixedWeb(size-forks, forks, seed))
			}
		}
	}
	for k, w := range list {
		switch k % 3 {
		case 1:
			list[k] = renumbered(w, withGaps)
		case 2:
			list[k] = renumbered(w, fromTheTop)
		}
	}
	return list
})

// numberedWeb is a web of the list that leads to a resolution, with its number.
type numberedWeb struct {
	web    impl.Web
	number int64
}

// openedByDefinition returns both webs in the place of one with a fork.
func openedByDefinition(x numberedWeb) []numberedWeb {
	for place, edge := range x.web.Legs {
		for k, fork := range x.web.Forks {
			at := slices.Index(fork, edge)
			if at < 0 {
				continue
			}
			f, g := fork[(at+1)%3], fork[(at+2)%3]
			first, second := copyWeb(x.web), copyWeb(x.web)
			first.Legs = slices.Replace(first.Legs, place, place+1, f, g)
			second.Legs = slices.Replace(second.Legs, place, place+1, g, f)
			first.Forks = slices.Delete(first.Forks, k, k+1)
			second.Forks = slices.Delete(second.Forks, k, k+1)
			return []numberedWeb{{first, x.number}, {second, -x.number}}
		}
	}
	return nil
}

// resolutionByDefinition goes on with a list of webs until none of them has a fork.
func resolutionByDefinition(w impl.Web) plain {
	list := []numberedWeb{{w, 1}}
	for {
		at := slices.IndexFunc(list, func(x numberedWeb) bool { return len(x.web.Forks) > 0 })
		if at < 0 {
			break
		}
		list = slices.Replace(list, at, at+1, openedByDefinition(list[at])...)
	}
	resolution := plain{}
	for _, x := range list {
		resolution[letters(normalByDefinition(x.web.Legs))] += x.number
	}
	return resolution
}

// forkedByDefinition puts the least new edge in the place of the legs k and k + 1, and a fork behind
// the others.
func forkedByDefinition(w impl.Web, k int) impl.Web {
	edge := int64(0)
	for slices.Contains(edgesOfWeb(w), edge) {
		edge++
	}
	forked := copyWeb(w)
	forked.Forks = append(forked.Forks, []int64{edge, w.Legs[k], w.Legs[k+1]})
	forked.Legs = slices.Concat(w.Legs[:k], []int64{edge}, w.Legs[k+2:])
	return forked
}

// exchangedByDefinition exchanges the legs k and k + 1.
func exchangedByDefinition(w impl.Web, k int) impl.Web {
	exchanged := copyWeb(w)
	exchanged.Legs[k], exchanged.Legs[k+1] = w.Legs[k+1], w.Legs[k]
	return exchanged
}

// turnedByDefinition exchanges the second and the third number of the fork k.
func turnedByDefinition(w impl.Web, k int) impl.Web {
	turned := copyWeb(w)
	turned.Forks[k] = []int64{w.Forks[k][0], w.Forks[k][2], w.Forks[k][1]}
	return turned
}

// threeByDefinition returns the second and the third one of the three webs of an edge, none if it
// does not stand in two different forks.
func threeByDefinition(w impl.Web, e int64) []impl.Web {
	var at []int
	var around [][]int64
	for k, fork := range w.Forks {
		if place := slices.Index(fork, e); place >= 0 {
			at = append(at, k)
			around = append(around, []int64{fork[(place+1)%3], fork[(place+2)%3]})
		}
	}
	if len(at) != 2 {
		return nil
	}
	a, b, c, d := around[0][0], around[0][1], around[1][0], around[1][1]
	second, third := copyWeb(w), copyWeb(w)
	second.Forks[at[0]], second.Forks[at[1]] = []int64{e, d, a}, []int64{e, b, c}
	third.Forks[at[0]], third.Forks[at[1]] = []int64{e, d, b}, []int64{e, c, a}
	return []impl.Web{second, third}
}

// wantWeb checks a web and the code beside it.
func wantWeb(t *testing.T, what string, got impl.Web, code int64, want impl.Web) {
	t.Helper()
	if code != impl.ErrNone || !equalWebs(got, want) {
		t.Errorf("%s = %s, code %d; want %s, code 0", what, showWeb(got), code, showWeb(want))
	}
	if !impl.IsWeb(got) {
		t.Errorf("%s = %s is no web", what, showWeb(got))
	}
}

func webOutcome(w impl.Web, code int64) outcome {
	return outcome{code, len(w.Legs) == 0 && len(w.Forks) == 0}
}

// mustResolve is ResolveWeb where it cannot fail.
func mustResolve(t *testing.T, p int64, w impl.Web) impl.Sum {
	t.Helper()
	resolution, code := impl.ResolveWeb(p, w)
	if code != impl.ErrNone {
		t.Fatalf("ResolveWeb(%d, %s): code %d", p, showWeb(w), code)
	}
	return resolution
}

// wantEqualModulo checks that two sums are equal modulo relations, by the program and by definition.
func wantEqualModulo(t *testing.T, what string, x, y impl.Sum) {
	t.Helper()
	areEqual, code := impl.AreEqualModulo(x, y)
	if !areEqual || code != impl.ErrNone {
		t.Errorf("%s: AreEqualModulo(%s, %s) = %v, code %d", what, spelling(x), spelling(y), areEqual, code)
	}
	if !equalSums(reducedByDefinition(x, false), reducedByDefinition(y, false)) {
		t.Errorf("%s: %s and %s are different modulo relations", what, spelling(x), spelling(y))
	}
}

// minus returns x less y.
func minus(t *testing.T, x, y impl.Sum) impl.Sum {
	t.Helper()
	difference, code := impl.AddSums(x, y, x.Prime-1)
	if code != impl.ErrNone {
		t.Fatalf("AddSums(%s, %s): code %d", spelling(x), spelling(y), code)
	}
	return difference
}

// webInRoom returns a copy of a web with spare capacity behind each list that is marked, and a
// function that reports whether the lists and the marks are still what they were.
func webInRoom(w impl.Web) (impl.Web, func() bool) {
	legs, areLegsUntouched := inRoom(w.Legs)
	room := make([][]int64, len(w.Forks)+5)
	checks := make([]func() bool, len(room))
	for k := range room {
		fork := []int64{1, 2, 3}
		if k < len(w.Forks) {
			fork = w.Forks[k]
		}
		room[k], checks[k] = inRoom(fork)
	}
	before := slices.Clone(room)
	isUntouched := func() bool {
		for k := range room {
			if len(room[k]) != len(before[k]) || &room[k][:1][0] != &before[k][:1][0] || !checks[k]() {
				return false
			}
		}
		return areLegsUntouched()
	}
	return impl.Web{Legs: legs, Forks: room[:len(w.Forks)]}, isUntouched
}

// listsOfWeb returns all lists of a web, and takes them out of it.
func listsOfWeb(w impl.Web) [][]int64 {
	lists := append([][]int64{w.Legs}, w.Forks...)
	clear(w.Forks[:cap(w.Forks)])
	return lists
}
