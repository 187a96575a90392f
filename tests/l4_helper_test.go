package tests

import (
	"slices"

	"loop.example/rationalstreams/impl"
)

// maxFrac is the document's number of how many numbers the polynomials of a fraction have at most.
const maxFrac = 12

// seriesOf is the first numbers of the series of a fraction, one after the other.
func seriesOf(f impl.Frac, many int) []int {
	list := make([]int, many)
	back := inverseOf(f.Prime, f.Low[0])
	for place := range list {
		left := 0
		if place < len(f.Up) {
			left = f.Up[place]
		}
		for i := 1; i < len(f.Low) && i <= place; i++ {
			left += (f.Prime - f.Low[i]) * list[place-i]
		}
		list[place] = left % f.Prime * back % f.Prime
	}
	return list
}

// divisorOf is a polynomial with the most numbers that divides both of two, of which one is not 0.
func divisorOf(p int, f, g []int) []int {
	for len(g) > 0 {
		_, rest := polyRest(p, f, g)
		f, g = g, rest
	}
	return f
}

// reduced is the fraction of two polynomials in lowest terms, however many numbers they have.
func reduced(p int, up, low []int) impl.Frac {
	divisor := divisorOf(p, up, low)
	up, _ = polyRest(p, up, divisor)
	low, _ = polyRest(p, low, divisor)
	back := inverseOf(p, low[0])
	return impl.Frac{Prime: p, Up: polyMultiple(p, up, back), Low: polyMultiple(p, low, back)}
}

func negativePoly(p int, f []int) []int {
	return polyMultiple(p, f, p-1)
}

// sumOf is both polynomials of a sum of fractions, not in lowest terms.
func sumOf(a, b impl.Frac) (up, low []int) {
	p := a.Prime
	return polySum(p, polyProduct(p, a.Up, b.Low), polyProduct(p, b.Up, a.Low)), polyProduct(p, a.Low, b.Low)
}

// productOf is both polynomials of a product of fractions, not in lowest terms.
func productOf(a, b impl.Frac) (up, low []int) {
	return polyProduct(a.Prime, a.Up, b.Up), polyProduct(a.Prime, a.Low, b.Low)
}

// fits tells of a fraction in lowest terms whether it is valid.
func fits(f impl.Frac) bool {
	return max(len(f.Up), len(f.Low)) <= maxFrac
}

// extended is the fraction with both polynomials multiplied by the same one.
func extended(f impl.Frac, by []int) impl.Frac {
	return impl.Frac{Prime: f.Prime, Up: polyProduct(f.Prime, f.Up, by), Low: polyProduct(f.Prime, f.Low, by)}
}

func sameFrac(a, b impl.Frac) bool {
	return a.Prime == b.Prime && slices.Equal(a.Up, b.Up) && slices.Equal(a.Low, b.Low)
}

func isNoFrac(f impl.Frac) bool {
	return sameFrac(f, impl.Frac{})
}

// zeroFrac is the one fraction of the series of 0 in lowest terms.
func zeroFrac(p int) impl.Frac {
	return impl.Frac{Prime: p, Low: []int{1}}
}

// lower makes a polynomial of just so many numbers, 1 or more, that does not begin with 0.
func (c *chance) lower(p, length int) []int {
	f := c.poly(p, length)
	if length > 1 {
		f[0] = 1 + c.below(p-1)
	}
	return f
}

// frac makes a mixed fraction with just so many numbers above and below.
func (c *chance) frac(p, upper, lower int) impl.Frac {
	return impl.Frac{Prime: p, Up: c.poly(p, upper), Low: c.lower(p, lower)}
}

// apart makes a polynomial that has no divisor in common with a lower polynomial but numbers.
func (c *chance) apart(p, length int, from []int) []int {
	for {
		f := c.poly(p, length)
		if len(divisorOf(p, f, from)) == 1 {
			return f
		}
	}
}

// lowest makes a fraction in lowest terms with just so many numbers above, 1 or more, and below.
func (c *chance) lowest(p, upper, lower int) impl.Frac {
	for {
		f := c.frac(p, upper, lower)
		if f = reduced(p, f.Up, f.Low); len(f.Low) == lower {
			return f
		}
	}
}

// smallFracs has every fraction with at most so many numbers above and below.
func smallFracs(p, most int) []impl.Frac {
	var list []impl.Frac
	for _, low := range allPolys(p, most) {
		if len(low) == 0 || low[0] == 0 {
			continue
		}
		for _, up := range allPolys(p, most) {
			list = append(list, impl.Frac{Prime: p, Up: up, Low: low})
		}
	}
	return list
}

// fracsBy has some fractions with at most so many numbers above and below: mixed ones, some with a divisor in common, some of which one polynomial is a multiple of the other, and some that begin with 0.
func (c *chance) fracsBy(p, upper, lower int) []impl.Frac {
	f := c.frac(p, upper, lower)
	list := []impl.Frac{
		f, c.frac(p, upper, lower),
		{Prime: p, Low: f.Low},
		{Prime: p, Up: f.Up, Low: []int{1 + c.below(p-1)}},
		{Prime: p, Up: f.Low, Low: f.Low},
		{Prime: p, Up: polyMultiple(p, f.Low, 1+c.below(p-1)), Low: f.Low},
	}
	if upper > 0 {
		list = append(list, impl.Frac{Prime: p, Up: power(upper-1, 1+c.below(p-1)), Low: f.Low})
	}
	room := maxFrac + 1 - max(upper, lower)
	by := c.lower(p, 1+c.below(room))
	return append(list, extended(f, by), extended(f, c.lower(p, room)),
		impl.Frac{Prime: p, Up: polyProduct(p, f.Low, c.poly(p, room)), Low: f.Low},
		impl.Frac{Prime: p, Up: by, Low: polyProduct(p, by, f.Low)})
}

// eachFrac gives all small fractions, and some of all primes and of all numbers of numbers above and below.
func eachFrac(do func(f impl.Frac)) {
	for _, small := range []struct{ p, most int }{{2, 4}, {3, 2}, {5, 2}, {13, 1}} {
		for _, f := range smallFracs(small.p, small.most) {
			do(f)
		}
	}
	c := &chance{state: 41}
	for _, p := range primes {
		for upper := range maxFrac + 1 {
			for lower := 1; lower <= maxFrac; lower++ {
				for _, f := range c.fracsBy(p, upper, lower) {
					do(f)
				}
			}
		}
	}
}

// eachTwoFracs gives two fractions for the same prime: all small ones, mixed ones, some with the same series, some whose sum is 0, and some whose series part only late.
func eachTwoFracs(do func(a, b impl.Frac)) {
	for _, small := range []struct{ p, most int }{{2, 3}, {3, 2}, {7, 1}} {
		list := smallFracs(small.p, small.most)
		for _, a := range list {
			for _, b := range list {
				do(a, b)
			}
		}
	}
	c := &chance{state: 42}
	for _, p := range primes {
		for range 300 {
			a := c.fracsBy(p, c.below(maxFrac+1), 1+c.below(maxFrac))
			b := c.fracsBy(p, c.below(maxFrac+1), 1+c.below(maxFrac))
			do(a[c.below(len(a))], b[c.below(len(b))])
		}
		for length := 1; length <= maxFrac; length++ {
			f := c.frac(p, 1+c.below(length), length)
			less := impl.Frac{Prime: p, Up: negativePoly(p, f.Up), Low: f.Low}
			for room := 1; room+length <= maxFrac+1; room++ {
				by := c.lower(p, room)
				do(f, extended(f, by))
				do(extended(f, by), extended(f, c.lower(p, 1+c.below(room))))
				do(extended(f, by), less)
				do(extended(f, c.lower(p, room)), extended(less, by))
			}
		}
		for half := 1; half < maxFrac; half++ {
			for begin := 0; begin+half < maxFrac; begin++ {
				do(c.lateApart(p, half, begin))
			}
		}
		for range 40 {
			whole, one, two := c.justFits(p)
			do(one, two)
			do(two, one)
			do(whole, impl.Frac{Prime: p, Up: negativePoly(p, one.Up), Low: one.Low})
		}
	}
}

// lateApart is two fractions whose series part only at twice half, and begin: one is the beginning of the other one.
func (c *chance) lateApart(p, half, begin int) (impl.Frac, impl.Frac) {
	times, start := 1+c.below(p-1), power(begin, 1+c.below(p-1))
	low := append(power(half-1, 0), times)
	low[0] = 1
	up := slices.Clone(low)
	up[half] = p - times
	a := impl.Frac{Prime: p, Up: polyProduct(p, up, start), Low: []int{1}}
	b := impl.Frac{Prime: p, Up: start, Low: low}
	return extended(a, c.lower(p, maxFrac-half-begin)), extended(b, c.lower(p, maxFrac-max(half, begin)))
}

// justFits is a fraction in lowest terms with 12 numbers below, and two fractions whose sum it is.
func (c *chance) justFits(p int) (whole, one, two impl.Frac) {
	first := 1 + c.below(maxFrac)
	part, other := c.lower(p, first), c.lower(p, maxFrac+1-first)
	low := polyProduct(p, part, other)
	up := c.apart(p, 1+c.below(maxFrac), low)
	above := c.poly(p, c.below(first+1))
	whole = reduced(p, up, low)
	one = extended(impl.Frac{Prime: p, Up: above, Low: part}, c.lower(p, maxFrac+1-first))
	two = impl.Frac{Prime: p, Up: polySum(p, up, negativePoly(p, polyProduct(p, above, other))), Low: low}
	return whole, one, two
}

// badFracs has fractions that are not valid, for a prime.
func badFracs(p int) []impl.Frac {
	list := []impl.Frac{
		{Prime: p}, {Prime: p, Up: []int{1}}, {Prime: p, Up: []int{}, Low: []int{}}, {Prime: p, Up: []int{1, 1}, Low: []int{}},
	}
	for _, low := range [][]int{{0, 1}, {0, 0, 1}, {0, 1, 1}, {0, p - 1}, power(maxFrac-1, 1), power(maxFrac, 1), power(maxTerms-1, 1)} {
		list = append(list, impl.Frac{Prime: p, Low: low}, impl.Frac{Prime: p, Up: []int{1}, Low: low}, impl.Frac{Prime: p, Up: low, Low: low})
	}
	for _, length := range []int{maxFrac + 1, maxFrac + 2, maxTerms, maxTerms + 1} {
		long := slices.Repeat([]int{1}, length)
		list = append(list, impl.Frac{Prime: p, Up: long, Low: []int{1}}, impl.Frac{Prime: p, Up: power(length-1, 1), Low: []int{1}},
			impl.Frac{Prime: p, Low: long}, impl.Frac{Prime: p, Up: []int{1}, Low: long}, impl.Frac{Prime: p, Up: long, Low: long})
	}
	for _, bad := range badPolys(p) {
		list = append(list, impl.Frac{Prime: p, Up: bad, Low: []int{1}}, impl.Frac{Prime: p, Up: bad, Low: []int{1, 1}},
			impl.Frac{Prime: p, Low: bad}, impl.Frac{Prime: p, Up: []int{1}, Low: bad}, impl.Frac{Prime: p, Up: bad, Low: bad})
	}
	for _, a := range noNumbers(p) {
		for length := 1; length <= maxFrac; length++ {
			for place := range length {
				list = append(list, impl.Frac{Prime: p, Up: power(length-1, 1), Low: []int{1}}, impl.Frac{Prime: p, Low: slices.Repeat([]int{1}, length)})
				list[len(list)-2].Up[place] = a
				list[len(list)-1].Low[place] = a
			}
		}
	}
	return list
}

// eachBadFrac gives these for all primes, and fractions for numbers that are no prime of the six.
func eachBadFrac(do func(bad impl.Frac)) {
	for _, p := range primes {
		for _, bad := range badFracs(p) {
			do(bad)
		}
	}
	do(impl.Frac{})
	for _, p := range noPrimes {
		for _, row := range [][]int{nil, {1}, {1, 1}, {0, 1}, {p - 1}, {p}, {1, 0}} {
			do(impl.Frac{Prime: p, Low: row})
			do(impl.Frac{Prime: p, Up: row, Low: []int{1}})
			do(impl.Frac{Prime: p, Up: row, Low: row})
		}
	}
}
