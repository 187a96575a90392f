package tests

import "slices"

// maxTerms is the document's number; the tests do not take it from the program.
const maxTerms = 24

// poly makes a polynomial of just so many numbers.
func (c *chance) poly(p, length int) []int {
	f := c.row(p, length)
	if length > 0 {
		f[length-1] = 1 + c.below(p-1)
	}
	return f
}

// unit makes a beginning of so many numbers that does not begin with 0.
func (c *chance) unit(p, length int) []int {
	s := c.row(p, length)
	if length > 0 {
		s[0] = 1 + c.below(p-1)
	}
	return s
}

// allPolys has every polynomial of at most so many numbers.
func allPolys(p, most int) [][]int {
	var list [][]int
	for length := range most + 1 {
		for _, f := range allRows(p, length) {
			if length == 0 || f[length-1] != 0 {
				list = append(list, f)
			}
		}
	}
	return list
}

func trimmed(f []int) []int {
	for len(f) > 0 && f[len(f)-1] == 0 {
		f = f[:len(f)-1]
	}
	return f
}

func polySum(p int, f, g []int) []int {
	sum := make([]int, max(len(f), len(g)))
	for i := range f {
		sum[i] = f[i]
	}
	for i := range g {
		sum[i] = (sum[i] + g[i]) % p
	}
	return trimmed(sum)
}

func polyProduct(p int, f, g []int) []int {
	product := make([]int, len(f)+len(g))
	for i := range f {
		for j := range g {
			product[i+j] = (product[i+j] + f[i]*g[j]) % p
		}
	}
	return trimmed(product)
}

func polyMultiple(p int, f []int, times int) []int {
	multiple := make([]int, len(f))
	for i := range f {
		multiple[i] = f[i] * times % p
	}
	return trimmed(multiple)
}

func inverseOf(p, a int) int {
	for b := range p {
		if a*b%p == 1 {
			return b
		}
	}
	panic("0 has no inverse")
}

// polyRest takes multiples of g from f until it is shorter than g.
func polyRest(p int, f, g []int) (quotient, rest []int) {
	rest = slices.Clone(f)
	for len(rest) >= len(g) {
		part := make([]int, len(rest)-len(g)+1)
		part[len(part)-1] = rest[len(rest)-1] * inverseOf(p, g[len(g)-1]) % p
		quotient = polySum(p, quotient, part)
		rest = polySum(p, rest, polyMultiple(p, polyProduct(p, part, g), p-1))
	}
	return quotient, rest
}

func polyValue(p int, f []int, x int) int {
	value, power := 0, 1
	for _, a := range f {
		value = (value + a*power) % p
		power = power * x % p
	}
	return value
}

// seriesProduct is the first numbers of the product, as many as both have.
func seriesProduct(p int, s, t []int) []int {
	product := make([]int, min(len(s), len(t)))
	for n := range product {
		for k := range n + 1 {
			product[n] = (product[n] + s[k]*t[n-k]) % p
		}
	}
	return product
}

// power is the polynomial of one number alone, at this place.
func power(place, number int) []int {
	f := make([]int, place+1)
	f[place] = number
	return f
}

// isPoly tells by the document's sentence whether a result is a polynomial.
func isPoly(p int, f []int) bool {
	if len(f) > maxTerms || len(f) > 0 && f[len(f)-1] == 0 {
		return false
	}
	return allBelow(p, f)
}

func allBelow(p int, row []int) bool {
	for _, a := range row {
		if a < 0 || a >= p {
			return false
		}
	}
	return true
}

// badBeginnings has rows that are not valid for a prime, neither as a polynomial nor as the beginning of a series.
func badBeginnings(p int) [][]int {
	long := append(make([]int, maxTerms), 1)
	bad := [][]int{long, make([]int, maxTerms+1), append(slices.Clone(long), 1), append(make([]int, 1000), 1)}
	for _, a := range noNumbers(p) {
		bad = append(bad, []int{a}, []int{a, 1}, []int{1, a}, []int{1, a, 1}, []int{0, 0, a, 1})
	}
	return bad
}

// badPolys has these, and those that are valid as the beginning of a series alone.
func badPolys(p int) [][]int {
	return append(badBeginnings(p), []int{0}, []int{1, 0}, []int{0, 0}, []int{p - 1, 1, 0}, make([]int, maxTerms), append(slices.Repeat([]int{1}, maxTerms-1), 0))
}

// eachPair gives two polynomials: all short ones, mixed ones of all lengths, and some that have a divisor in common.
func eachPair(do func(p int, f, g []int)) {
	for _, small := range []struct{ p, most int }{{2, 4}, {3, 3}, {5, 2}, {13, 1}} {
		list := allPolys(small.p, small.most)
		for _, f := range list {
			for _, g := range list {
				do(small.p, f, g)
			}
		}
	}
	c := &chance{state: 21}
	for _, p := range primes {
		for one := range maxTerms + 1 {
			for two := range maxTerms + 1 {
				do(p, c.poly(p, one), c.poly(p, two))
			}
			same := c.poly(p, one)
			do(p, same, same)
			do(p, same, polyMultiple(p, same, p-1))
			do(p, same, polySum(p, polyMultiple(p, same, p-1), c.row(p, c.below(one+1))))
		}
		for range 100 {
			both := c.poly(p, 1+c.below(12))
			do(p, polyProduct(p, both, c.poly(p, c.below(13))), polyProduct(p, both, c.poly(p, c.below(13))))
		}
	}
}
