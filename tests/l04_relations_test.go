package tests

import (
	"slices"
	"testing"

	"loop.example/g01303/impl"
)

func TestFourTermSumsByDefinition(t *testing.T) {
	number := 0
	for n := 1; n < impl.MaxChords; n++ {
		for _, four := range fourTermsOfSize(n) {
			number++
			for _, p := range primes {
				// The longest words are many: each of their sums is taken for one prime.
				if n > 3 && p != primes[number%len(primes)] {
					continue
				}
				got, code := impl.FourTermSum(p, four.word, four.i, int64(four.x))
				wantSum(t, call("FourTermSum", p, letters(four.word), four.i, four.x), got, code, sumByDefinition(p, four.sum))
			}
		}
	}
}

func TestFourTermSumExamples(t *testing.T) {
	for _, p := range primes {
		for _, example := range []struct {
			text string
			i, x int64
			want plain
		}{
			{"abab", 0, 4, plain{"abcbca": 1, "abcacb": -1, "abcabc": 1, "abacbc": -1}},
			// Words that stand twice are made one, and may become 0.
			{"aabb", 0, 3, plain{"abbcac": 1, "aabcbc": -1}},
			{"aa", 0, 0, plain{"aabb": 1, "abba": -1}},
			{"aa", 0, 1, plain{}},
			{"aa", 0, 2, plain{"abba": 1, "aabb": -1}},
		} {
			sum, code := impl.FourTermSum(p, spelt(example.text), example.i, example.x)
			wantSum(t, call("FourTermSum", p, example.text, example.i, example.x), sum, code, sumByDefinition(p, example.want))
		}
	}
}

// wantZeroModulo checks that a four-term sum is 0 modulo relations, and that each weight system of
// the basis vanishes on it.
func wantZeroModulo(t *testing.T, p int64, four fourTerm, basis [][]int64, isDense bool) {
	t.Helper()
	none := impl.Sum{Prime: p}
	what := call("four-term sum", p, letters(four.word), four.i, four.x)
	sum, code := impl.FourTermSum(p, four.word, four.i, int64(four.x))
	if code != impl.ErrNone {
		t.Fatalf("%s: code %d", what, code)
	}
	reduced, code := impl.ReduceSum(sum)
	wantSum(t, "ReduceSum of the "+what, reduced, code, none)
	for k, weights := range basis {
		value, code := impl.ValueOfWeight(int64(len(four.word)/2+1), weights, sum)
		wantValue(t, call("ValueOfWeight of the "+what, k), value, code, 0)
	}
	if !isDense {
		return
	}
	reduced, code = impl.ReduceFreely(sum)
	wantSum(t, "ReduceFreely of the "+what, reduced, code, none)
	isZero, code := impl.AreEqualModulo(sum, none)
	wantValue(t, "AreEqualModulo of the "+what+" and none", isZero, code, true)
	isZero, code = impl.AreEqualModulo(none, sum)
	wantValue(t, "AreEqualModulo of none and the "+what, isZero, code, true)
}

func TestFourTermSumsAreZeroModuloRelations(t *testing.T) {
	for n := 1; n < maxOrder; n++ {
		list := fourTermsOfSize(n)
		for _, p := range primes {
			basis, code := impl.WeightBasis(p, int64(n+1))
			if code != impl.ErrNone || len(basis) == 0 {
				t.Fatalf("WeightBasis(%d, %d) = %v, code %d", p, n+1, basis, code)
			}
			for number, four := range list {
				wantZeroModulo(t, p, four, basis, p == primes[number%len(primes)])
			}
		}
	}
}

// TestFourTermSumsChangeNothingModuloRelations adds multiples of four-term sums to other sums.
func TestFourTermSumsChangeNothingModuloRelations(t *testing.T) {
	list := fourTermsOfSize(maxOrder - 1)
	for _, p := range primes {
		for number, x := range orderedSums(p) {
			y := x
			for step := range 5 {
				four := sumByDefinition(p, list[(number*37+step*61)%len(list)].sum)
				added, code := impl.AddSums(y, four, int64(step)%p)
				if code != impl.ErrNone {
					t.Fatalf("AddSums(%s, %s): code %d", spelling(y), spelling(four), code)
				}
				y = added
			}
			areEqual, code := impl.AreEqualModulo(x, y)
			wantValue(t, call("AreEqualModulo", spelling(x), spelling(y)), areEqual, code, true)
			wantSum(t, call("ReduceSum", spelling(y)), mustReduce(t, y), impl.ErrNone, mustReduce(t, x))
		}
	}
}

func TestRelationRowsByDefinition(t *testing.T) {
	for _, p := range primes {
		for n := 1; n <= maxOrder; n++ {
			rows, code := impl.RelationRows(p, int64(n))
			wantLists(t, call("RelationRows", p, n), rows, code, relationLists[relationKey{p, n, false}])
			free, code := impl.FreeRelationRows(p, int64(n))
			wantLists(t, call("FreeRelationRows", p, n), free, code, relationLists[relationKey{p, n, true}])
			if !isReducedList(p, rows) || !isReducedList(p, free) {
				t.Errorf("the relations of %d for %d are not reduced: %v, %v", n, p, rows, free)
			}
		}
	}
}

// TestSmallRelationRows writes the relations down. The diagrams of 3 chords are aabbcc, aabcbc,
// aabccb, abacbc and abcabc.
func TestSmallRelationRows(t *testing.T) {
	for _, p := range primes {
		for n, want := range [][][]int64{nil, nil, {{1, 0, p - 1, 0, 0}, {0, 1, 0, residue(-2, p), 1}}} {
			rows, code := impl.RelationRows(p, int64(n+1))
			wantLists(t, call("RelationRows", p, n+1), rows, code, want)
		}
		// If isolated chords are 0, abcabc is twice abacbc, which is 0 for 2.
		last := []int64{0, 0, 0, 1, (p - 1) / 2}
		if p == 2 {
			last = []int64{0, 0, 0, 0, 1}
		}
		for n, want := range [][][]int64{{{1}}, {{1, 0}}, {{1, 0, 0, 0, 0}, {0, 1, 0, 0, 0}, {0, 0, 1, 0, 0}, last}} {
			rows, code := impl.FreeRelationRows(p, int64(n+1))
			wantLists(t, call("FreeRelationRows", p, n+1), rows, code, want)
		}
	}
}

func TestDimensions(t *testing.T) {
	for _, p := range primes {
		for n, want := range []int64{1, 1, 2, 3, 6} {
			dimension, code := impl.DimensionOf(p, int64(n))
			wantValue(t, call("DimensionOf", p, n), dimension, code, want)
			wantValue(t, "rows by definition", int64(len(circleLists[n].diagrams)-len(relationLists[relationKey{p, n, false}])), 0, want)
		}
		for n, want := range []int64{1, 0, 1, 1, 3} {
			dimension, code := impl.FreeDimension(p, int64(n))
			wantValue(t, call("FreeDimension", p, n), dimension, code, want)
			wantValue(t, "free rows by definition", int64(len(circleLists[n].diagrams)-len(relationLists[relationKey{p, n, true}])), 0, want)
		}
	}
}

func TestBasesHaveAsManyRowsAsTheDimension(t *testing.T) {
	for _, p := range primes {
		for n := range maxOrder + 1 {
			basis, code := impl.WeightBasis(p, int64(n))
			dimension, dimensionCode := impl.DimensionOf(p, int64(n))
			if code != impl.ErrNone || dimensionCode != impl.ErrNone || int64(len(basis)) != dimension {
				t.Fatalf("WeightBasis(%d, %d) has %d rows, code %d; the dimension is %d, code %d", p, n, len(basis), code, dimension, dimensionCode)
			}
			if !isReducedList(p, basis) {
				t.Errorf("WeightBasis(%d, %d) = %v is not reduced", p, n, basis)
			}
			relations := rawRelations(p, n, false)
			for _, weights := range basis {
				if len(weights) != len(circleLists[n].diagrams) || !isWeightByDefinition(p, weights, relations) {
					t.Errorf("WeightBasis(%d, %d) has %v, which is no weight system", p, n, weights)
				}
				isSystem, code := impl.IsWeightSystem(p, int64(n), weights)
				wantValue(t, call("IsWeightSystem", p, n, weights), isSystem, code, true)
			}
		}
	}
}

func TestSmallBases(t *testing.T) {
	for _, p := range primes {
		for n, want := range [][][]int64{{{1}}, {{1}}, {{1, 0}, {0, 1}}, {{1, 0, 1, 0, 0}, {0, 1, 0, 0, p - 1}, {0, 0, 0, 1, 2 % p}}} {
			basis, code := impl.WeightBasis(p, int64(n))
			wantLists(t, call("WeightBasis", p, n), basis, code, want)
		}
	}
}

// TestAllSmallListsAsWeightSystems counts the weight systems: they are as many as the basis has sums
// of multiples, and each one is the sum that its numbers at the first places of the basis tell.
func TestAllSmallListsAsWeightSystems(t *testing.T) {
	for _, p := range primes {
		for n := range maxOrder {
			size := len(circleLists[n].diagrams)
			if size > 2 && p > 5 {
				continue
			}
			relations := rawRelations(p, n, false)
			basis, _ := impl.WeightBasis(p, int64(n))
			systems, want := 0, 1
			for range basis {
				want *= int(p)
			}
			for _, list := range listsOfResidues(p, size) {
				isSystem, code := impl.IsWeightSystem(p, int64(n), list)
				wantValue(t, call("IsWeightSystem", p, n, list), isSystem, code, isWeightByDefinition(p, list, relations))
				if isSystem {
					systems++
					wantWord(t, call("rest of", p, n, list), takenAway(p, list, basis), code, make([]int64, size))
				}
			}
			if systems != want {
				t.Errorf("%d weight systems of %d for %d, the basis %v leads to %d", systems, n, p, basis, want)
			}
		}
	}
}

func TestListsOfMaxOrderAsWeightSystems(t *testing.T) {
	size := len(circleLists[maxOrder].diagrams)
	for _, p := range primes {
		relations := rawRelations(p, maxOrder, false)
		basis, _ := impl.WeightBasis(p, maxOrder)
		for seed := range 8 {
			list := make([]int64, size)
			for k, weights := range basis {
				list = timesPlus(p, list, int64(seed*seed+k*seed+k+1), weights)
			}
			isSystem, code := impl.IsWeightSystem(p, maxOrder, list)
			wantValue(t, call("IsWeightSystem", p, list), isSystem, code, true)
			for place := range list {
				changed := slices.Clone(list)
				changed[place] = residue(changed[place]+1+int64(seed), p)
				isSystem, code := impl.IsWeightSystem(p, maxOrder, changed)
				wantValue(t, call("IsWeightSystem", p, changed), isSystem, code, isWeightByDefinition(p, changed, relations))
			}
		}
		for _, list := range someLists(p, size) {
			isSystem, code := impl.IsWeightSystem(p, maxOrder, list)
			wantValue(t, call("IsWeightSystem", p, list), isSystem, code, isWeightByDefinition(p, list, relations))
		}
	}
}

// wantReduced checks both reduced sums of a sum.
func wantReduced(t *testing.T, x impl.Sum) {
	t.Helper()
	reduced, code := impl.ReduceSum(x)
	wantSum(t, call("ReduceSum", spelling(x)), reduced, code, reducedByDefinition(x, false))
	free, code := impl.ReduceFreely(x)
	wantSum(t, call("ReduceFreely", spelling(x)), free, code, reducedByDefinition(x, true))
}

func TestReducedSumsByDefinition(t *testing.T) {
	for number, w := range wordsUpTo(maxOrder) {
		p := primes[number%len(primes)]
		wantReduced(t, one(p, letters(w), p-1))
	}
	for _, p := range primes {
		for _, x := range orderedSums(p) {
			wantReduced(t, x)
		}
	}
}

func TestReducedSumsAreReduced(t *testing.T) {
	for _, p := range primes {
		for _, x := range orderedSums(p) {
			reduced := mustReduce(t, x)
			wantSum(t, call("ReduceSum twice", spelling(x)), mustReduce(t, reduced), 0, reduced)
			areEqual, code := impl.AreEqualModulo(x, reduced)
			wantValue(t, call("AreEqualModulo with the reduced sum", spelling(x)), areEqual, code, true)
			free, code := impl.ReduceFreely(x)
			again, againCode := impl.ReduceFreely(free)
			wantSum(t, call("ReduceFreely twice", spelling(x), code), again, againCode, free)
			again, againCode = impl.ReduceFreely(reduced)
			wantSum(t, call("ReduceFreely of ReduceSum", spelling(x)), again, againCode, free)
			for n := 1; n <= maxOrder; n++ {
				wantZerosAtLeads(t, reduced, n, false)
				wantZerosAtLeads(t, free, n, true)
			}
		}
	}
}

// wantZerosAtLeads checks that a reduced sum has no coefficients at the first places of relations.
func wantZerosAtLeads(t *testing.T, reduced impl.Sum, n int, isFree bool) {
	t.Helper()
	row, code := impl.DiagramRow(reduced, int64(n))
	if code != impl.ErrNone {
		t.Fatalf("DiagramRow(%s, %d): code %d", spelling(reduced), n, code)
	}
	for _, relation := range relationLists[relationKey{reduced.Prime, n, isFree}] {
		if lead := leadOf(relation); row[lead] != 0 {
			t.Errorf("%s is reduced, but has %d at %d of %d", spelling(reduced), row[lead], lead, n)
		}
	}
}

// TestShortPartsOfReducedSums takes the parts of 0, 1 and 2 chords, which stay, or are 0 freely.
func TestShortPartsOfReducedSums(t *testing.T) {
	for _, p := range primes {
		for value := int64(1); value < p; value++ {
			for _, text := range []string{"", "aa", "aabb", "abab"} {
				wantSum(t, "ReduceSum of "+text, mustReduce(t, one(p, text, value)), 0, one(p, text, value))
			}
			wantSum(t, "ReduceSum of abba", mustReduce(t, one(p, "abba", value)), 0, one(p, "aabb", value))
			for text, left := range map[string]int64{"": value, "aa": 0, "aabb": 0, "abba": 0, "abab": value} {
				free, code := impl.ReduceFreely(one(p, text, value))
				wantSum(t, "ReduceFreely of "+text, free, code, one(p, text, left))
			}
		}
	}
}

func TestEqualityModuloRelations(t *testing.T) {
	for number, p := range primes {
		sums := orderedSums(p)
		var reduced []impl.Sum
		for _, x := range sums {
			reduced = append(reduced, reducedByDefinition(x, false))
		}
		for i, x := range sums {
			for k, y := range sums {
				// Each pair is taken for one half of the primes.
				if i != k && (i+k+number)%2 == 0 {
					continue
				}
				areEqual, code := impl.AreEqualModulo(x, y)
				wantValue(t, call("AreEqualModulo", spelling(x), spelling(y)), areEqual, code, equalSums(reduced[i], reduced[k]))
			}
		}
	}
}

// TestDiagramsModuloRelations holds all diagrams of one size against each other, with Values.
func TestDiagramsModuloRelations(t *testing.T) {
	for n := range maxOrder + 1 {
		for i, a := range circleLists[n].diagrams {
			for k, b := range circleLists[n].diagrams {
				p := primes[(i+k)%len(primes)]
				x, y := one(p, letters(a), 1), one(p, letters(b), p-1)
				want := equalSums(reducedByDefinition(x, false), reducedByDefinition(y, false))
				areEqual, code := impl.AreEqualModulo(x, y)
				wantValue(t, call("AreEqualModulo", spelling(x), spelling(y)), areEqual, code, want)
			}
		}
	}
	// These are equal for relations, and others are just if isolated chords are 0.
	for _, p := range primes {
		areEqual, code := impl.AreEqualModulo(one(p, "aabbcc", p-1), one(p, "aabccb", p-1))
		wantValue(t, "AreEqualModulo of aabbcc and aabccb", areEqual, code, true)
		areEqual, code = impl.AreEqualModulo(one(p, "aa", 1), impl.Sum{Prime: p})
		wantValue(t, "AreEqualModulo of aa and none", areEqual, code, false)
		areEqual, code = impl.AreEqualModulo(one(p, "", 1), impl.Sum{Prime: p})
		wantValue(t, "AreEqualModulo of the empty word and none", areEqual, code, false)
		areEqual, code = impl.AreEqualModulo(impl.Sum{Prime: p}, impl.Sum{Prime: p})
		wantValue(t, "AreEqualModulo of none and none", areEqual, code, true)
	}
}

func TestRotatedSumsAreEqualModuloRelations(t *testing.T) {
	for _, p := range primes {
		for number, x := range orderedSums(p) {
			turned, code := impl.RotateSum(x, int64(1+5*number))
			if code != impl.ErrNone {
				t.Fatalf("RotateSum(%s): code %d", spelling(x), code)
			}
			areEqual, code := impl.AreEqualModulo(x, turned)
			wantValue(t, call("AreEqualModulo", spelling(x), spelling(turned)), areEqual, code, true)
		}
	}
}

func TestDiagramRowsByDefinition(t *testing.T) {
	for number, w := range wordsUpTo(maxOrder) {
		for n := range maxOrder + 1 {
			p := primes[(number+n)%len(primes)]
			row, code := impl.DiagramRow(one(p, letters(w), p-1), int64(n))
			wantWord(t, call("DiagramRow", p, letters(w), n), row, code, rowByDefinition(p, n, plain{letters(w): p - 1}))
		}
	}
	for _, p := range primes {
		for _, x := range orderedSums(p) {
			for n := range maxOrder + 1 {
				row, code := impl.DiagramRow(x, int64(n))
				wantWord(t, call("DiagramRow", spelling(x), n), row, code, rowByDefinition(p, n, plainOf(x)))
			}
		}
	}
}

func TestValuesOfWeightsByDefinition(t *testing.T) {
	for _, p := range primes {
		for _, x := range orderedSums(p) {
			for n := range maxOrder + 1 {
				row := rowByDefinition(p, n, plainOf(x))
				for _, list := range someLists(p, len(row)) {
					value, code := impl.ValueOfWeight(int64(n), list, x)
					wantValue(t, call("ValueOfWeight", n, list, spelling(x)), value, code, productsByDefinition(p, list, row))
				}
			}
		}
	}
}

// TestValuesOfWeightSystemsKeepReducedSums takes weight systems, whose values are those of reduced
// sums.
func TestValuesOfWeightSystemsKeepReducedSums(t *testing.T) {
	for _, p := range primes {
		for n := range maxOrder + 1 {
			basis, _ := impl.WeightBasis(p, int64(n))
			for _, x := range orderedSums(p) {
				reduced := mustReduce(t, x)
				for _, weights := range basis {
					want, _ := impl.ValueOfWeight(int64(n), weights, x)
					value, code := impl.ValueOfWeight(int64(n), weights, reduced)
					wantValue(t, call("ValueOfWeight", n, weights, spelling(reduced)), value, code, want)
				}
			}
		}
	}
}

// TestRelationsOfSumsWithoutTerms takes them with nil and with an empty list that has room behind it.
func TestRelationsOfSumsWithoutTerms(t *testing.T) {
	for _, p := range primes {
		for _, x := range []impl.Sum{{Prime: p}, {Prime: p, Terms: []impl.Term{}}, {Prime: p, Terms: make([]impl.Term, 0, 9)}} {
			none := impl.Sum{Prime: p}
			wantSum(t, "ReduceSum without Terms", mustReduce(t, x), 0, none)
			free, code := impl.ReduceFreely(x)
			wantSum(t, "ReduceFreely without Terms", free, code, none)
			areEqual, code := impl.AreEqualModulo(x, none)
			wantValue(t, "AreEqualModulo without Terms", areEqual, code, true)
			for n := range maxOrder + 1 {
				size := len(circleLists[n].diagrams)
				row, code := impl.DiagramRow(x, int64(n))
				wantWord(t, "DiagramRow without Terms", row, code, make([]int64, size))
				value, code := impl.ValueOfWeight(int64(n), slices.Repeat([]int64{p - 1}, size), x)
				wantValue(t, "ValueOfWeight without Terms", value, code, 0)
			}
		}
	}
}
