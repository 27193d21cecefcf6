package tests

import (
	"math/big"
	"slices"
	"testing"

	"loop.example/g01303/impl"
)

func TestIsPolynomialTakesJustThePolynomials(t *testing.T) {
	if impl.MaxPower != maxPower {
		t.Errorf("MaxPower is %d", impl.MaxPower)
	}
	for _, f := range somePolynomials() {
		if !impl.IsPolynomial(f) {
			t.Errorf("IsPolynomial(%v) = false", f)
		}
	}
	for _, f := range notPolynomials() {
		if impl.IsPolynomial(f) {
			t.Errorf("IsPolynomial(%v) = true", f[:min(len(f), 50)])
		}
	}
	// One number at each place: at both limits, and one behind them.
	for size := 1; size <= maxPower+1; size++ {
		for place := range size {
			for _, number := range []int64{billion, -billion, billion + 1, -billion - 1, 0} {
				f := longest(3)[:size]
				f[place] = number
				want := number == billion || number == -billion || number == 0 && place < size-1
				if impl.IsPolynomial(f) != want {
					t.Errorf("IsPolynomial(%v) = %v", f, !want)
				}
			}
		}
	}
}

// factors are numbers by which polynomials may be multiplied when they are added.
var factors = []int64{0, 1, -1, 2, -2, 31, 999, 1000, -1000}

func TestAddedPolynomialsByDefinition(t *testing.T) {
	for _, f := range somePolynomials() {
		for _, g := range somePolynomials() {
			for _, k := range factors {
				sum, code := impl.AddPolynomials(f, g, k)
				wantPolynomial(t, call("AddPolynomials", f, g, k), sum, code, sumByNumbers(f, g, k))
			}
		}
	}
}

// TestAddedPolynomialsUpToTheLimit takes sums that just are polynomials, and sums that just are none.
func TestAddedPolynomialsUpToTheLimit(t *testing.T) {
	for _, c := range []struct {
		f, g []int64
		k    int64
		want []int64
	}{
		{[]int64{billion - 5}, []int64{5}, 1, []int64{billion}},
		{[]int64{5 - billion}, []int64{5}, -1, []int64{-billion}},
		{nil, []int64{0, 1000000}, 1000, []int64{0, billion}},
		{nil, []int64{0, 1000000}, -1000, []int64{0, -billion}},
		{longest(billion), longest(billion), -2, longest(-billion)},
		{longest(-billion), longest(1), 1, longest(1 - billion)},
		{longest(billion), longest(billion), -1, nil},
		{longest(billion), longest(billion), 0, longest(billion)},
		{[]int64{1, 2, 3}, []int64{1, 4, 3}, -1, []int64{0, -2}},
		{[]int64{1, 2}, []int64{3, 1}, -2, []int64{-5}},
		{[]int64{7}, []int64{1, 0, 1}, 0, []int64{7}},
		{nil, nil, 1000, nil},
	} {
		sum, code := impl.AddPolynomials(c.f, c.g, c.k)
		wantWord(t, call("AddPolynomials", c.f, c.g, c.k), sum, code, c.want)
	}
	for _, c := range []struct {
		f, g []int64
		k    int64
	}{
		{[]int64{billion}, []int64{1}, 1}, {[]int64{-billion}, []int64{1}, -1}, {[]int64{1}, []int64{1000000}, 1000},
		{[]int64{-1, 1}, []int64{1000000, 1}, -1000}, {nil, []int64{billion}, 2}, {longest(billion), longest(billion), 1000},
		{longest(-billion), longest(billion), -1000}, {monomial(billion, maxPower), monomial(1, maxPower), 1},
		// The greatest power is none of those that are too great.
		{[]int64{billion, 0, 5}, []int64{1, 0, 5}, 1}, {[]int64{billion, 0, 5}, []int64{-1, 0, 5}, -1},
	} {
		wantCode(t, call("AddPolynomials", c.f, c.g, c.k), listOutcome(impl.AddPolynomials(c.f, c.g, c.k)), impl.ErrLimit)
	}
}

func TestProductsOfPolynomialsByDefinition(t *testing.T) {
	for _, f := range somePolynomials() {
		for _, g := range somePolynomials() {
			product, code := impl.MultiplyPolynomials(f, g)
			wantPolynomial(t, call("MultiplyPolynomials", f, g), product, code, productByNumbers(f, g))
		}
	}
}

// spread returns a polynomial with N^2 in the place of N.
func spread(f []int64) []int64 {
	g := make([]int64, 2*len(f)-1)
	for power, number := range f {
		g[2*power] = number
	}
	return g
}

// TestProductsOfPolynomialsUpToTheLimit takes products that just are polynomials, and products that
// just are none.
func TestProductsOfPolynomialsUpToTheLimit(t *testing.T) {
	for _, c := range []struct{ f, g, want []int64 }{
		{nil, longest(billion), nil}, {longest(billion), nil, nil}, {nil, nil, nil},
		{longest(billion), []int64{1}, longest(billion)}, {[]int64{-1}, longest(billion), longest(-billion)},
		{[]int64{40000}, []int64{-25000}, []int64{-billion}}, {[]int64{999999, 1}, []int64{1000, 1}, []int64{999999000, 1000999, 1}},
		{monomial(-7, 20), monomial(3, 20), monomial(-21, maxPower)}, {monomial(2, maxPower), []int64{5}, monomial(10, maxPower)},
		// Numbers between are far greater than those of the product.
		{binomial(20, 1, 5000), binomial(20, -1, 1), spread(binomial(20, -1, 5000))},
		{[]int64{1, 2}, []int64{3, -1}, []int64{3, 5, -2}},
	} {
		product, code := impl.MultiplyPolynomials(c.f, c.g)
		wantWord(t, call("MultiplyPolynomials", c.f, c.g), product, code, c.want)
		product, code = impl.MultiplyPolynomials(c.g, c.f)
		wantWord(t, call("MultiplyPolynomials", c.g, c.f), product, code, c.want)
	}
	for _, c := range [][2][]int64{
		// 1001 times 999001 is one more than is allowed.
		{{1001}, {999001}}, {{-1001}, {999001}}, {{-1001, 1}, {-999001, 1}}, {{0, 1001}, {999001, 0, 2}}, {{billion}, {2}}, {{billion}, {-billion}},
		{{billion, 1}, {1, 1}}, {{billion, billion}, {1, 1}}, {{1, 1}, {-billion, -1}}, {{2, billion}, {billion, 2}},
		{monomial(1, 20), monomial(1, 21)}, {monomial(1, maxPower), {0, 1}}, {longest(1), longest(1)}, {longest(-1), {0, 1}},
		{longest(billion)[:21], longest(billion)[:21]}, {longest(billion)[:20], longest(-billion)[:20]},
		// The number at N^19 is 2 to the power of 64.
		{append(longest(billion)[:19], 709551616), append([]int64{1, 446744073}, longest(billion)[:18]...)},
	} {
		wantCode(t, call("MultiplyPolynomials", c[0], c[1]), listOutcome(impl.MultiplyPolynomials(c[0], c[1])), impl.ErrLimit)
		wantCode(t, call("MultiplyPolynomials", c[1], c[0]), listOutcome(impl.MultiplyPolynomials(c[1], c[0])), impl.ErrLimit)
	}
}

// TestProductsAreCommutativeAndMayBeBracketed takes polynomials whose products are short.
func TestProductsAreCommutativeAndMayBeBracketed(t *testing.T) {
	short := [][]int64{nil, {1}, {-3}, {0, 1}, {2, -1}, {1, 0, -1}, {-5, 4, 3, 2}, binomial(6, -1, 2)}
	multiply := func(f, g []int64) []int64 {
		product, code := impl.MultiplyPolynomials(f, g)
		if code != impl.ErrNone {
			t.Fatalf("MultiplyPolynomials(%v, %v): code %d", f, g, code)
		}
		return product
	}
	for _, f := range short {
		for _, g := range short {
			wantWord(t, call("product", g, f), multiply(g, f), 0, multiply(f, g))
			for _, h := range short {
				wantWord(t, call("product", f, g, h), multiply(f, multiply(g, h)), 0, multiply(multiply(f, g), h))
			}
		}
	}
}

// valueByNumbers adds up the numbers times powers of x.
func valueByNumbers(f []int64, x, p int64) int64 {
	sum := new(big.Int)
	for power, number := range f {
		term := new(big.Int).Exp(big.NewInt(x), big.NewInt(int64(power)), nil)
		sum.Add(sum, term.Mul(term, big.NewInt(number)))
	}
	return sum.Mod(sum, big.NewInt(p)).Int64()
}

func TestValuesOfPolynomialsByDefinition(t *testing.T) {
	for _, p := range primes {
		for x := range p {
			for _, f := range somePolynomials() {
				value, code := impl.ValueOfPolynomial(f, x, p)
				wantValue(t, call("ValueOfPolynomial", f, x, p), value, code, valueByNumbers(f, x, p))
			}
		}
	}
	value, code := impl.ValueOfPolynomial([]int64{-1, 0, 1}, 2, 7)
	wantValue(t, "ValueOfPolynomial", value, code, 3)
}

// TestValuesAtBothEnds tells the values at 0, 1 and p - 1 by the first number and the sums of the
// numbers, without and with signs.
func TestValuesAtBothEnds(t *testing.T) {
	for _, p := range primes {
		for _, f := range somePolynomials() {
			first, sum, difference := int64(0), int64(0), int64(0)
			for power, number := range f {
				if power == 0 {
					first = number
				}
				sum += number
				difference += number * int64(1-power%2*2)
			}
			for x, want := range map[int64]int64{0: first, 1: sum, p - 1: difference} {
				value, code := impl.ValueOfPolynomial(f, x, p)
				wantValue(t, call("ValueOfPolynomial", f, x, p), value, code, residue(want, p))
			}
		}
	}
}

// TestValuesOfSumsAndProducts holds the values of sums and products against those of both parts.
func TestValuesOfSumsAndProducts(t *testing.T) {
	short := slices.DeleteFunc(somePolynomials(), func(f []int64) bool { return len(f) > 12 })
	for _, p := range primes {
		for number, f := range short {
			x := int64(number) % p
			a, _ := impl.ValueOfPolynomial(f, x, p)
			for _, g := range short {
				b, _ := impl.ValueOfPolynomial(g, x, p)
				if sum, code := impl.AddPolynomials(f, g, -3); code == impl.ErrNone {
					value, code := impl.ValueOfPolynomial(sum, x, p)
					wantValue(t, call("value of the sum", f, g, x, p), value, code, residue(a-3*b, p))
				}
				if product, code := impl.MultiplyPolynomials(f, g); code == impl.ErrNone {
					value, code := impl.ValueOfPolynomial(product, x, p)
					wantValue(t, call("value of the product", f, g, x, p), value, code, a*b%p)
				}
			}
		}
	}
}
