package tests

import (
	"slices"
	"testing"

	"loop.example/rationalstreams/impl"
)

// border counts how often the lowest terms of sums and products are next to the bound of 12 numbers, though what they are made of has more.
type border struct{ just, refused, zero int }

func (b *border) count(up, low []int, want impl.Frac) {
	switch {
	case len(want.Up) == 0:
		b.zero++
	case max(len(want.Up), len(want.Low)) == maxFrac && max(len(up), len(low)) > maxFrac:
		b.just++
	case max(len(want.Up), len(want.Low)) == maxFrac+1:
		b.refused++
	}
}

func TestP14SeriesAddUp(t *testing.T) {
	var b border
	eachTwoFracs(func(one, two impl.Frac) {
		up, low := sumOf(one, two)
		want := reduced(one.Prime, up, low)
		b.count(up, low, want)
		got, ok := impl.FracAdd(one, two)
		other, otherOk := impl.FracAdd(two, one)
		if ok != fits(want) || ok != otherOk || !sameFrac(got, other) {
			t.Fatal("the sum of", one, two, "is", got, ok, "exchanged", other, otherOk)
		}
		if !ok {
			if !isNoFrac(got) {
				t.Fatal("no sum of", one, two, "but", got)
			}
			return
		}
		if !impl.FracValid(got) || !sameFrac(got, want) || !sameFrac(got, impl.FracLeast(got)) {
			t.Fatal("the sum of", one, two, "is", got, "not", want)
		}
		series, first, second := impl.FracTerms(got, maxTerms), impl.FracTerms(one, maxTerms), impl.FracTerms(two, maxTerms)
		for place, a := range series {
			if a != (first[place]+second[place])%one.Prime {
				t.Fatal("the sum of", one, two, "is", got, "which differs at", place)
			}
		}
	})
	if b.just < 50 || b.refused < 50 || b.zero < 100 {
		t.Fatal("too few are at the border:", b)
	}
}

func TestP15SeriesMultiply(t *testing.T) {
	var b border
	eachTwoFracs(func(one, two impl.Frac) {
		up, low := productOf(one, two)
		want := reduced(one.Prime, up, low)
		b.count(up, low, want)
		got, ok := impl.FracTimes(one, two)
		other, otherOk := impl.FracTimes(two, one)
		if ok != fits(want) || ok != otherOk || !sameFrac(got, other) {
			t.Fatal("the product of", one, two, "is", got, ok, "exchanged", other, otherOk)
		}
		if !ok {
			if !isNoFrac(got) {
				t.Fatal("no product of", one, two, "but", got)
			}
			return
		}
		if !impl.FracValid(got) || !sameFrac(got, want) || !sameFrac(got, impl.FracLeast(got)) {
			t.Fatal("the product of", one, two, "is", got, "not", want)
		}
		series := impl.SeriesTimes(one.Prime, impl.FracTerms(one, maxTerms), impl.FracTerms(two, maxTerms))
		if !slices.Equal(impl.FracTerms(got, maxTerms), series) || !slices.Equal(seriesOf(got, maxTerms), seriesProduct(one.Prime, seriesOf(one, maxTerms), seriesOf(two, maxTerms))) {
			t.Fatal("the product of", one, two, "is", got, "which is not", series)
		}
	})
	if b.just < 50 || b.refused < 50 || b.zero < 100 {
		t.Fatal("too few are at the border:", b)
	}
}

// TestP14SumsInLowestTermsThatJustFit has sums made of polynomials with up to 23 numbers, whose lowest terms are known and have just 12.
func TestP14SumsInLowestTermsThatJustFit(t *testing.T) {
	c := &chance{state: 47}
	full := 0
	for _, p := range primes {
		for range 200 {
			want, one, two := c.justFits(p)
			if len(one.Low)+len(two.Low)-1 == 2*maxFrac-1 {
				full++
			}
			if got, ok := impl.FracAdd(one, two); !ok || !sameFrac(got, want) || len(got.Low) != maxFrac {
				t.Fatal("the sum of", one, two, "is", got, ok, "not", want)
			}
		}
	}
	if full < 100 {
		t.Fatal("only", full, "had 23 numbers below")
	}
}

// twoApart makes two lower polynomials with no divisor in common but numbers.
func (c *chance) twoApart(p, one, two int) ([]int, []int) {
	for {
		f, g := c.lower(p, one), c.lower(p, two)
		if len(divisorOf(p, f, g)) == 1 {
			return f, g
		}
	}
}

// TestP14SumsWithTwelveAndThirteenNumbersBelow adds fractions whose lower polynomials have no divisor in common, so that nothing is left out.
func TestP14SumsWithTwelveAndThirteenNumbersBelow(t *testing.T) {
	c := &chance{state: 48}
	for _, p := range primes {
		for first := 2; first <= maxFrac; first++ {
			for _, many := range []int{maxFrac, maxFrac + 1} {
				second := many + 1 - first
				if second < 2 {
					continue
				}
				f, g := c.twoApart(p, first, second)
				one := impl.Frac{Prime: p, Up: c.apart(p, 1+c.below(first-1), f), Low: f}
				two := impl.Frac{Prime: p, Up: c.apart(p, 1+c.below(second-1), g), Low: g}
				got, ok := impl.FracAdd(one, two)
				if ok != (many == maxFrac) || ok && len(got.Low) != maxFrac || !ok && !isNoFrac(got) {
					t.Fatal("the sum of", one, two, "with", many, "numbers below is", got, ok)
				}
			}
		}
	}
}

// TestP14SumsWithTwelveAndThirteenNumbersAbove adds a polynomial.
func TestP14SumsWithTwelveAndThirteenNumbersAbove(t *testing.T) {
	c := &chance{state: 49}
	for _, p := range primes {
		for lower := 2; lower <= maxFrac; lower++ {
			low := c.lower(p, lower)
			part := impl.Frac{Prime: p, Up: c.apart(p, lower-1, low), Low: low}
			for _, many := range []int{maxFrac, maxFrac + 1} {
				whole := impl.Frac{Prime: p, Up: c.poly(p, many+1-lower), Low: []int{1}}
				got, ok := impl.FracAdd(part, whole)
				if ok != (many == maxFrac) || ok && len(got.Up) != maxFrac || !ok && !isNoFrac(got) {
					t.Fatal("the sum of", part, whole, "with", many, "numbers above is", got, ok)
				}
			}
		}
	}
}

// longProduct makes four polynomials that do not begin with 0: two and two, of which the products have no divisor in common but numbers, and those of the second two together so many numbers.
func (c *chance) longProduct(p, first, many int) (short, other, long, otherLong []int) {
	for {
		short, other = c.lower(p, 1+c.below(6)), c.lower(p, 1+c.below(6))
		long, otherLong = c.lower(p, first), c.lower(p, many+1-first)
		if len(divisorOf(p, polyProduct(p, short, other), polyProduct(p, long, otherLong))) == 1 {
			return short, other, long, otherLong
		}
	}
}

// TestP15ProductsWithTwelveAndThirteenNumbers multiplies fractions of which each one has above what the other one has below.
func TestP15ProductsWithTwelveAndThirteenNumbers(t *testing.T) {
	c := &chance{state: 50}
	for _, p := range primes {
		for _, many := range []int{maxFrac, maxFrac + 1} {
			for first := many + 1 - maxFrac; first <= maxFrac; first++ {
				short, other, long, otherLong := c.longProduct(p, first, many)
				by, otherBy := c.lower(p, maxFrac+1-max(len(short), len(otherLong))), c.lower(p, maxFrac+1-max(len(other), len(long)))
				one := impl.Frac{Prime: p, Up: polyProduct(p, short, by), Low: polyProduct(p, long, otherBy)}
				two := impl.Frac{Prime: p, Up: polyProduct(p, other, otherBy), Low: polyProduct(p, otherLong, by)}
				mustMultiply(t, one, two, reduced(p, polyProduct(p, short, other), polyProduct(p, long, otherLong)), many)
				one.Up, one.Low, two.Up, two.Low = one.Low, one.Up, two.Low, two.Up
				mustMultiply(t, one, two, reduced(p, polyProduct(p, long, otherLong), polyProduct(p, short, other)), many)
			}
		}
	}
}

// mustMultiply fails unless the product is the wanted one, which has so many numbers above or below, or there is none if these are more than 12.
func mustMultiply(t *testing.T, one, two, want impl.Frac, many int) {
	t.Helper()
	if max(len(want.Up), len(want.Low)) != many || !impl.FracValid(one) || !impl.FracValid(two) {
		t.Fatal("this is no product with", many, "numbers:", one, two, want)
	}
	if many > maxFrac {
		want = impl.Frac{}
	}
	for _, pair := range [][2]impl.Frac{{one, two}, {two, one}} {
		if got, ok := impl.FracTimes(pair[0], pair[1]); ok != (many <= maxFrac) || !sameFrac(got, want) {
			t.Fatal("the product of", pair, "is", got, ok, "not", want)
		}
	}
}

func TestFracAddExamples(t *testing.T) {
	list := []struct {
		a, b, sum impl.Frac
		ok        bool
	}{
		{impl.Frac{Prime: 7, Up: []int{1}, Low: []int{1, 6}}, impl.Frac{Prime: 7, Up: []int{6}, Low: []int{1, 6}}, zeroFrac(7), true},
		{impl.Frac{Prime: 7, Up: []int{1}, Low: []int{1, 6}}, impl.Frac{Prime: 7, Up: []int{6, 6}, Low: []int{1, 0, 6}}, zeroFrac(7), true},
		{impl.Frac{Prime: 7, Up: []int{1}, Low: []int{1, 6}}, impl.Frac{Prime: 7, Up: []int{1}, Low: []int{1, 6}}, impl.Frac{Prime: 7, Up: []int{2}, Low: []int{1, 6}}, true},
		{impl.Frac{Prime: 7, Up: []int{1}, Low: []int{1, 6}}, impl.Frac{Prime: 7, Up: []int{1}, Low: []int{1, 1}}, impl.Frac{Prime: 7, Up: []int{2}, Low: []int{1, 0, 6}}, true},
		{impl.Frac{Prime: 7, Up: []int{1}, Low: []int{2}}, impl.Frac{Prime: 7, Up: []int{0, 1}, Low: []int{3}}, impl.Frac{Prime: 7, Up: []int{4, 5}, Low: []int{1}}, true},
		{zeroFrac(7), zeroFrac(7), zeroFrac(7), true},
		{zeroFrac(7), impl.Frac{Prime: 7, Low: []int{3, 1}}, zeroFrac(7), true},
		{zeroFrac(7), impl.Frac{Prime: 7, Up: []int{0, 2, 2}, Low: []int{2, 0, 3, 5}}, impl.Frac{Prime: 7, Up: []int{0, 1}, Low: []int{1, 6, 6}}, true},
		{impl.Frac{Prime: 2, Up: []int{1}, Low: []int{1, 1}}, impl.Frac{Prime: 2, Up: []int{1}, Low: []int{1, 1}}, zeroFrac(2), true},
		{impl.Frac{Prime: 2, Up: []int{1}, Low: []int{1, 1}}, impl.Frac{Prime: 2, Up: []int{1}, Low: []int{1, 0, 1}}, impl.Frac{Prime: 2, Up: []int{0, 1}, Low: []int{1, 0, 1}}, true},
		{impl.Frac{Prime: 2, Up: []int{1}, Low: []int{1, 1}}, impl.Frac{Prime: 2, Up: power(10, 1), Low: []int{1}}, impl.Frac{Prime: 2, Up: []int{1, 0, 0, 0, 0, 0, 0, 0, 0, 0, 1, 1}, Low: []int{1, 1}}, true},
		{impl.Frac{Prime: 2, Up: []int{1}, Low: []int{1, 1}}, impl.Frac{Prime: 2, Up: power(11, 1), Low: []int{1}}, impl.Frac{}, false},
		{impl.Frac{Prime: 13, Up: power(11, 1), Low: []int{1}}, impl.Frac{Prime: 13, Up: power(11, 12), Low: []int{1}}, zeroFrac(13), true},
	}
	for _, x := range list {
		if got, ok := impl.FracAdd(x.a, x.b); ok != x.ok || !sameFrac(got, x.sum) {
			t.Fatal("the sum of", x.a, x.b, "is", got, ok)
		}
	}
}

func TestFracTimesExamples(t *testing.T) {
	list := []struct {
		a, b, product impl.Frac
		ok            bool
	}{
		{impl.Frac{Prime: 7, Up: []int{1}, Low: []int{1, 6}}, impl.Frac{Prime: 7, Up: []int{1}, Low: []int{1, 6}}, impl.Frac{Prime: 7, Up: []int{1}, Low: []int{1, 5, 1}}, true},
		{impl.Frac{Prime: 7, Up: []int{1}, Low: []int{1, 6}}, impl.Frac{Prime: 7, Up: []int{1, 6}, Low: []int{1}}, impl.Frac{Prime: 7, Up: []int{1}, Low: []int{1}}, true},
		{impl.Frac{Prime: 7, Up: []int{0, 3}, Low: []int{2}}, impl.Frac{Prime: 7, Up: []int{5}, Low: []int{4, 1}}, impl.Frac{Prime: 7, Up: []int{0, 1}, Low: []int{1, 2}}, true},
		{zeroFrac(7), impl.Frac{Prime: 7, Up: []int{5}, Low: []int{4, 1}}, zeroFrac(7), true},
		{impl.Frac{Prime: 7, Low: []int{3, 1}}, impl.Frac{Prime: 7, Low: []int{4, 1}}, zeroFrac(7), true},
		{impl.Frac{Prime: 2, Up: []int{1, 1}, Low: []int{1}}, impl.Frac{Prime: 2, Up: []int{1}, Low: []int{1, 0, 1}}, impl.Frac{Prime: 2, Up: []int{1}, Low: []int{1, 1}}, true},
		{impl.Frac{Prime: 13, Up: power(5, 2), Low: []int{1}}, impl.Frac{Prime: 13, Up: power(6, 7), Low: []int{1}}, impl.Frac{Prime: 13, Up: power(11, 1), Low: []int{1}}, true},
		{impl.Frac{Prime: 13, Up: power(6, 2), Low: []int{1}}, impl.Frac{Prime: 13, Up: power(6, 7), Low: []int{1}}, impl.Frac{}, false},
		{impl.Frac{Prime: 13, Up: power(6, 2), Low: []int{1, 1}}, impl.Frac{Prime: 13, Low: power(0, 3)}, zeroFrac(13), true},
	}
	for _, x := range list {
		if got, ok := impl.FracTimes(x.a, x.b); ok != x.ok || !sameFrac(got, x.product) {
			t.Fatal("the product of", x.a, x.b, "is", got, ok)
		}
	}
}
