package tests

import (
	"math/big"
	"slices"
	"testing"

	"loop.example/g01303/impl"
)

func TestDivisionsOf(t *testing.T) {
	for n, want := range []int64{1, 1, 3, 13, 75} {
		count, code := impl.DivisionsOf(int64(n))
		wantValue(t, call("DivisionsOf", n), count, code, want)
		divisions := 0
		for k := range n + 1 {
			divisions += len(divisionsInto(n, k))
		}
		wantValue(t, call("the divisions of", n), int64(divisions), code, want)
	}
	if impl.MaxList != maxList {
		t.Errorf("MaxList is %d", impl.MaxList)
	}
}

func TestTransformExamples(t *testing.T) {
	for _, c := range []struct{ list, want []int64 }{
		{nil, []int64{1}}, {[]int64{}, []int64{1}}, {[]int64{1, 1}, []int64{1, 1, 2}}, {[]int64{0}, []int64{1, 0}}, {[]int64{1000}, []int64{1, 1000}},
		{[]int64{0, 1}, []int64{1, 0, 1}}, {[]int64{0, 0, 1000}, []int64{1, 0, 0, 1000}}, {[]int64{2, 0, 1}, []int64{1, 2, 3, 5}},
		{[]int64{1000, 0}, []int64{1, 1000, 500500}},
		// The numbers of partitions.
		{slices.Repeat([]int64{1}, 20), []int64{1, 1, 2, 3, 5, 7, 11, 15, 22, 30, 42, 56, 77, 101, 135, 176, 231, 297, 385, 490, 627}},
	} {
		got, code := impl.TransformCounts(c.list)
		wantWord(t, call("TransformCounts", c.list), got, code, c.want)
		back, code := impl.UntransformCounts(c.want)
		wantWord(t, call("UntransformCounts", c.want), back, code, c.list)
	}
}

// TestTransformsLeadBack takes all lists of small numbers, lists of all lengths with small numbers, and
// with one number that is greater.
func TestTransformsLeadBack(t *testing.T) {
	for size := range 6 {
		for _, list := range listsOfResidues(4, size) {
			wantTransform(t, list)
		}
	}
	for size := range maxList + 1 {
		for seed := range 20 {
			wantTransform(t, mixedList(3, size, seed))
			wantTransform(t, mixedList(13, size, seed))
		}
		for place := range size {
			for _, number := range []int64{1, 2, 7, 30, 100, 500, 999, 1000} {
				list := make([]int64, size)
				list[place] = number
				wantTransform(t, list)
				list[size-1-place] = 1
				wantTransform(t, list)
			}
		}
		wantTransform(t, make([]int64, size))
		wantTransform(t, slices.Repeat([]int64{1}, size))
		wantTransform(t, slices.Repeat([]int64{maxCount}, size))
	}
}

// reaching returns a list of four numbers whose transform has a number as its last one.
func reaching(number int64) []int64 {
	list := make([]int64, 4)
	for place := range list {
		for list[place] < maxCount {
			list[place]++
			if transformByDefinition(list)[4].Cmp(big.NewInt(number)) > 0 {
				list[place]--
				break
			}
		}
	}
	return list
}

// TestTransformsUpToTheLimit takes lists whose transforms have just 1000000000 and numbers next to it at
// some place.
func TestTransformsUpToTheLimit(t *testing.T) {
	for number := int64(billion - 2); number <= billion+2; number++ {
		list := reaching(number)
		if last := transformByDefinition(list)[4]; last.Int64() != number {
			t.Fatalf("the transform of %v has %v in the place of %d", list, last, number)
		}
		wantTransform(t, list)
		got, code := impl.TransformCounts(list)
		if number > billion {
			wantCode(t, call("TransformCounts", list), listOutcome(got, code), impl.ErrLimit)
		} else if code != impl.ErrNone || got[4] != number {
			t.Errorf("TransformCounts(%v) = %v, code %d", list, got, code)
		}
		// As t^2, t^4, .. are in the place of t, t^2, .., the number behind is 0.
		apart := make([]int64, 9)
		for place, count := range list {
			apart[2*place+1] = count
		}
		for size := 7; size <= 9; size++ {
			wantTransform(t, apart[:size])
		}
	}
	// The greatest number does not fit into 64 bits.
	longest := slices.Repeat([]int64{maxCount}, maxList)
	if transformByDefinition(longest)[maxList].IsInt64() {
		t.Errorf("the last number of the transform fits")
	}
	wantCode(t, "TransformCounts of the longest list", listOutcome(impl.TransformCounts(longest)), impl.ErrLimit)
	// For these, the first number that is too great, or does not fit into 64 bits, is at different places.
	for first := int64(1); first <= maxCount; first += 3 {
		list := make([]int64, maxList)
		list[0] = first
		wantTransform(t, list)
	}
}

// TestUntransformedLists takes all lists of small numbers behind the first one.
func TestUntransformedLists(t *testing.T) {
	there, none := 0, 0
	for size := range 6 {
		for _, numbers := range listsOfResidues(5, size) {
			if wantUntransform(t, append([]int64{1}, numbers...)) {
				there++
			} else {
				none++
			}
		}
	}
	if there < 100 || none < 100 {
		t.Errorf("there are lists for %d, and none for %d", there, none)
	}
}

// TestListsThatAreNoTransform changes one number of a transform.
func TestListsThatAreNoTransform(t *testing.T) {
	for seed := range 40 {
		list := mixedList(3, 1+seed%maxList, seed)
		var transform []int64
		for _, number := range transformByDefinition(list) {
			transform = append(transform, number.Int64())
		}
		for place := 1; place < len(transform); place++ {
			for _, number := range []int64{0, transform[place] - 1, transform[place] + 1, transform[place] + maxCount - list[place-1], transform[place] + maxCount - list[place-1] + 1, billion} {
				if number >= 0 && number <= billion {
					wantUntransform(t, withNumber(transform, place, number))
				}
			}
		}
	}
}

func TestUntransformedEdges(t *testing.T) {
	for _, list := range [][]int64{
		{1}, {1, 0}, {1, 1000}, {1, 1001}, {1, billion}, {1, 0, 1000}, {1, 0, 1001}, {1, 1, 0}, {1, 1, 1}, {1, 1, 1001}, {1, 1, 1002}, {1, 1000, 500499},
		{1, 1000, 500500}, {1, 1000, 501500}, {1, 1000, 501501}, {1, 1000, billion}, {1, 1000, 501500, billion}, {1, 1000, 500500, 167167000, billion},
		slices.Repeat([]int64{1}, maxList+1), append([]int64{1}, slices.Repeat([]int64{billion}, maxList)...),
		append([]int64{1}, make([]int64, maxList)...), append(append([]int64{1}, make([]int64, maxList-1)...), 1000),
		append(append([]int64{1}, make([]int64, maxList-1)...), 1001), append(append([]int64{1}, make([]int64, maxList-1)...), billion),
	} {
		wantUntransform(t, list)
	}
	for _, list := range [][]int64{{1, 1001}, {1, 1, 0}, {1, 1000, 500499}, {1, 1000, 501501}, {1, billion}, {1, 1000, 500500, 167167000, billion}} {
		wantCode(t, call("UntransformCounts", list), listOutcome(impl.UntransformCounts(list)), impl.ErrState)
	}
}

// TestTransformedListsOutOfRange takes lists for which ErrLimit would come as well.
func TestTransformedListsOutOfRange(t *testing.T) {
	for _, bad := range []int64{-1, -2, -1000, 1001, 1002, 2000, billion, -1 << 63, 1 << 32, -1 << 32, 1<<63 - 1} {
		for size := 1; size <= maxList; size++ {
			for place := range size {
				for _, number := range []int64{0, 1, maxCount} {
					list := slices.Repeat([]int64{number}, size)
					list[place] = bad
					wantCode(t, call("TransformCounts", list), listOutcome(impl.TransformCounts(list)), impl.ErrRange)
				}
			}
		}
	}
	for _, size := range []int{maxList + 1, maxList + 2, 2*maxList + 1, 1 << 20} {
		for _, number := range []int64{0, 1, maxCount, -1, maxCount + 1} {
			list := slices.Repeat([]int64{number}, size)
			wantCode(t, call("TransformCounts", size, number), listOutcome(impl.TransformCounts(list)), impl.ErrRange)
		}
	}
}

// TestUntransformedListsOutOfRange takes lists for which ErrState would come as well.
func TestUntransformedListsOutOfRange(t *testing.T) {
	wantCode(t, "UntransformCounts of nil", listOutcome(impl.UntransformCounts(nil)), impl.ErrRange)
	wantCode(t, "UntransformCounts of no numbers", listOutcome(impl.UntransformCounts([]int64{})), impl.ErrRange)
	for _, bad := range []int64{-1, -2, -1000, billion + 1, billion + 2, -1 << 63, 1 << 32, 1 << 40, -1 << 32, 1<<63 - 1} {
		for size := 1; size <= maxList+1; size++ {
			for place := range size {
				for _, number := range []int64{0, 1, 1001} {
					list := slices.Repeat([]int64{number}, size)
					list[0], list[place] = 1, bad
					wantCode(t, call("UntransformCounts", list), listOutcome(impl.UntransformCounts(list)), impl.ErrRange)
				}
			}
		}
	}
	for _, first := range []int64{0, 2, 3, 1000, billion, -1} {
		for size := 1; size <= maxList+1; size++ {
			list := append([]int64{first}, slices.Repeat([]int64{1}, size-1)...)
			wantCode(t, call("UntransformCounts", list), listOutcome(impl.UntransformCounts(list)), impl.ErrRange)
		}
	}
	for _, size := range []int{maxList + 2, maxList + 3, 2 * maxList, 1 << 20} {
		for _, number := range []int64{0, 1, 1001, -1, billion + 1} {
			list := slices.Repeat([]int64{number}, size)
			list[0] = 1
			wantCode(t, call("UntransformCounts", size, number), listOutcome(impl.UntransformCounts(list)), impl.ErrRange)
		}
	}
}

func TestTransformsShareNothing(t *testing.T) {
	for _, list := range [][]int64{nil, {1}, {1, 1, 1}, {1, 2, 3, 7}, make([]int64, maxList)} {
		inside, isUntouched := inRoom(list)
		wantNothingShared(t, call("TransformCounts", list), func() [][]int64 {
			numbers, code := impl.TransformCounts(inside)
			return [][]int64{numbers, {code}}
		}, isUntouched)
		wantNothingShared(t, call("UntransformCounts", list), func() [][]int64 {
			counts, code := impl.UntransformCounts(inside)
			return [][]int64{counts, {code}}
		}, isUntouched)
	}
}
