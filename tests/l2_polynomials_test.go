package tests

import (
	"math"
	"slices"
	"testing"

	"loop.example/rationalstreams/impl"
)

func TestP64PolynomialsEndWithANumber(t *testing.T) {
	if impl.MaxTerms != maxTerms {
		t.Fatal("MaxTerms is", impl.MaxTerms)
	}
	c := &chance{state: 22}
	for _, p := range primes {
		if !impl.PolyValid(p, nil) || !impl.PolyValid(p, []int{}) {
			t.Fatal("the polynomial 0 is not valid by", p)
		}
		for length := 0; length <= maxTerms; length++ {
			f := c.poly(p, length)
			if !impl.PolyValid(p, f) {
				t.Fatal("by", p, "not valid", f)
			}
			if impl.PolyValid(p, append(slices.Clone(f), 0)) {
				t.Fatal("by", p, "valid with 0 behind it", f)
			}
			if length > 0 && !impl.PolyValid(p, power(length-1, p-1)) {
				t.Fatal("by", p, "not valid for the power", length-1)
			}
		}
		for _, bad := range badPolys(p) {
			if impl.PolyValid(p, bad) {
				t.Fatal("by", p, "valid", bad)
			}
		}
	}
	for _, small := range []struct{ p, most int }{{2, 6}, {3, 4}, {5, 3}} {
		count := 0
		for length := range small.most + 1 {
			for _, f := range allRows(small.p, length) {
				if impl.PolyValid(small.p, f) {
					count++
				}
			}
		}
		if want := len(allPolys(small.p, small.most)); count != want {
			t.Fatal("by", small.p, "valid are", count, "not", want)
		}
	}
	for _, p := range noPrimes {
		for _, f := range [][]int{nil, {}, {1}, {0, 1}, {p - 1}, {p}} {
			if impl.PolyValid(p, f) {
				t.Fatal(p, "is no prime, but valid is", f)
			}
		}
	}
}

func TestP66ValuesAddUp(t *testing.T) {
	eachPair(func(p int, f, g []int) {
		sum, ok := impl.PolyAdd(p, f, g)
		if !ok || !isPoly(p, sum) || !slices.Equal(sum, polySum(p, f, g)) {
			t.Fatal("by", p, f, g, "the sum is", sum, ok)
		}
		for x := range p {
			if impl.PolyAt(p, sum, x) != (impl.PolyAt(p, f, x)+impl.PolyAt(p, g, x))%p {
				t.Fatal("by", p, f, g, "the value of the sum for", x, "is", impl.PolyAt(p, sum, x))
			}
		}
	})
}

func TestAddExamples(t *testing.T) {
	full := slices.Repeat([]int{1}, maxTerms)
	list := []struct {
		p         int
		f, g, sum []int
	}{
		{5, []int{1, 2}, []int{3, 3}, []int{4}},
		{5, []int{1, 2}, []int{4, 3}, nil},
		{5, []int{1, 2, 3}, []int{0, 3, 2}, []int{1}},
		{5, []int{1, 2, 3}, []int{0, 0, 2}, []int{1, 2}},
		{5, []int{0, 2, 3}, []int{0, 3, 2}, nil},
		{2, []int{1, 1}, []int{1, 1}, nil},
		{2, []int{1, 1}, []int{0, 1}, []int{1}},
		{2, []int{1, 0, 1}, []int{1, 1}, []int{0, 1, 1}},
		{7, nil, []int{0, 6}, []int{0, 6}},
		{7, []int{0, 6}, nil, []int{0, 6}},
		{7, nil, nil, nil},
		{2, full, full, nil},
		{2, full, full[1:], power(maxTerms-1, 1)},
		{3, full, full, slices.Repeat([]int{2}, maxTerms)},
		{13, []int{12}, []int{12, 12, 12}, []int{11, 12, 12}},
	}
	for _, x := range list {
		if got, ok := impl.PolyAdd(x.p, x.f, x.g); !ok || !slices.Equal(got, x.sum) {
			t.Fatal("by", x.p, x.f, x.g, "is", got, ok)
		}
	}
}

func TestP67ValuesMultiply(t *testing.T) {
	eachPair(func(p int, f, g []int) {
		want := polyProduct(p, f, g)
		got, ok := impl.PolyTimes(p, f, g)
		if len(want) > maxTerms {
			if got != nil || ok {
				t.Fatal("by", p, f, g, "with", len(want), "numbers is", got, ok)
			}
			return
		}
		if !ok || !isPoly(p, got) || !slices.Equal(got, want) {
			t.Fatal("by", p, f, g, "the product is", got, ok)
		}
		if len(f) > 0 && len(g) > 0 && len(got) != len(f)+len(g)-1 || (len(f) == 0 || len(g) == 0) && len(got) != 0 {
			t.Fatal("by", p, f, g, "has", len(got), "numbers")
		}
		for x := range p {
			if impl.PolyAt(p, got, x) != impl.PolyAt(p, f, x)*impl.PolyAt(p, g, x)%p {
				t.Fatal("by", p, f, g, "the value of the product for", x, "is", impl.PolyAt(p, got, x))
			}
		}
	})
}

func TestProductsOfJustMaxTermsNumbersAndOfOneMore(t *testing.T) {
	c := &chance{state: 23}
	for _, p := range primes {
		for length := 1; length <= maxTerms; length++ {
			f, g := c.poly(p, length), c.poly(p, maxTerms+1-length)
			if got, ok := impl.PolyTimes(p, f, g); !ok || len(got) != maxTerms || !slices.Equal(got, polyProduct(p, f, g)) {
				t.Fatal("by", p, f, g, "is", got, ok)
			}
			for _, longer := range [][]int{append(slices.Clone(g), 1), power(maxTerms+1-length, p-1)} {
				if got, ok := impl.PolyTimes(p, f, longer); got != nil || ok {
					t.Fatal("by", p, f, longer, "is", got, ok)
				}
				if got, ok := impl.PolyTimes(p, longer, f); got != nil || ok {
					t.Fatal("by", p, longer, f, "is", got, ok)
				}
			}
		}
		full := slices.Repeat([]int{p - 1}, maxTerms)
		if got, ok := impl.PolyTimes(p, full, nil); !ok || len(got) != 0 {
			t.Fatal("with 0 by", p, "is", got, ok)
		}
		if got, ok := impl.PolyTimes(p, nil, full); !ok || len(got) != 0 {
			t.Fatal("of 0 by", p, "is", got, ok)
		}
		if got, ok := impl.PolyTimes(p, nil, nil); !ok || len(got) != 0 {
			t.Fatal("of 0 and 0 by", p, "is", got, ok)
		}
	}
	if got, ok := impl.PolyTimes(5, []int{1, 1}, []int{1, 4}); !ok || !slices.Equal(got, []int{1, 0, 4}) {
		t.Fatal(got, ok)
	}
	if got, ok := impl.PolyTimes(2, []int{1, 1}, []int{1, 1}); !ok || !slices.Equal(got, []int{1, 0, 1}) {
		t.Fatal(got, ok)
	}
}

func TestP5RestsAreShorter(t *testing.T) {
	eachPair(func(p int, f, g []int) {
		quotient, rest, ok := impl.PolyDivide(p, f, g)
		if len(g) == 0 {
			if quotient != nil || rest != nil || ok {
				t.Fatal("by", p, f, "by 0 is", quotient, rest, ok)
			}
			return
		}
		if !ok || !isPoly(p, quotient) || !isPoly(p, rest) || len(rest) >= len(g) {
			t.Fatal("by", p, f, g, "is", quotient, rest, ok)
		}
		if !slices.Equal(polySum(p, polyProduct(p, g, quotient), rest), f) {
			t.Fatal("by", p, f, g, "is", quotient, rest)
		}
		times, timesOk := impl.PolyTimes(p, g, quotient)
		sum, sumOk := impl.PolyAdd(p, times, rest)
		if !timesOk || !sumOk || !slices.Equal(sum, f) {
			t.Fatal("by", p, f, g, "the product and the rest together are", sum)
		}
	})
}

// TestP5DivisionsAreFoundAgain divides what is made of a known quotient and a known rest.
func TestP5DivisionsAreFoundAgain(t *testing.T) {
	c := &chance{state: 24}
	for _, p := range primes {
		for length := 1; length <= maxTerms; length++ {
			for many := range maxTerms + 2 - length {
				for _, short := range []int{0, c.below(length), length - 1} {
					g, quotient, rest := c.poly(p, length), c.poly(p, many), c.poly(p, short)
					f := polySum(p, polyProduct(p, g, quotient), rest)
					gotQuotient, gotRest, ok := impl.PolyDivide(p, f, g)
					if !ok || !slices.Equal(gotQuotient, quotient) || !slices.Equal(gotRest, rest) {
						t.Fatal("by", p, f, g, "is", gotQuotient, gotRest, ok, "not", quotient, rest)
					}
				}
			}
		}
	}
}

func TestDivideExamples(t *testing.T) {
	full := slices.Repeat([]int{1}, maxTerms)
	list := []struct {
		p                    int
		f, g, quotient, rest []int
	}{
		{5, []int{3, 0, 1}, []int{1, 1}, []int{4, 1}, []int{4}},
		{5, []int{1, 0, 4}, []int{1, 1}, []int{1, 4}, nil},
		{5, []int{1, 2, 3}, []int{3}, []int{2, 4, 1}, nil},
		{5, []int{1, 2}, []int{0, 0, 1}, nil, []int{1, 2}},
		{5, nil, []int{0, 3}, nil, nil},
		{5, nil, []int{3}, nil, nil},
		{5, []int{4}, []int{2}, []int{2}, nil},
		{7, []int{0, 0, 0, 1}, []int{0, 1}, []int{0, 0, 1}, nil},
		{7, []int{3, 0, 0, 1}, []int{1, 0, 2}, []int{0, 4}, []int{3, 3}},
		{7, []int{3, 1}, []int{6, 2}, []int{4}, nil},
		{2, []int{1, 0, 0, 1}, []int{1, 1}, []int{1, 1, 1}, nil},
		{2, []int{1, 1, 1}, []int{1, 1}, []int{0, 1}, []int{1}},
		{2, full, full, []int{1}, nil},
		{2, full, []int{1}, full, nil},
		{3, full, full[1:], []int{0, 1}, []int{1}},
		{13, full[1:], full, nil, full[1:]},
	}
	for _, x := range list {
		quotient, rest, ok := impl.PolyDivide(x.p, x.f, x.g)
		if !ok || !slices.Equal(quotient, x.quotient) || !slices.Equal(rest, x.rest) {
			t.Fatal("by", x.p, x.f, x.g, "is", quotient, rest, ok)
		}
	}
	for _, p := range primes {
		for _, f := range [][]int{nil, {1}, {0, 1}, full} {
			if quotient, rest, ok := impl.PolyDivide(p, f, nil); quotient != nil || rest != nil || ok {
				t.Fatal("by 0", p, f, "is", quotient, rest, ok)
			}
		}
	}
}

// commonOf does what the sentence of PolyCommon says, step by step.
func commonOf(p int, f, g []int) [3][]int {
	first, second := [3][]int{f, {1}, nil}, [3][]int{g, nil, {1}}
	for len(second[0]) > 0 {
		quotient, _ := polyRest(p, first[0], second[0])
		var next [3][]int
		for i := range next {
			next[i] = polySum(p, first[i], polyMultiple(p, polyProduct(p, quotient, second[i]), p-1))
		}
		first, second = second, next
	}
	if last := len(first[0]); last > 0 {
		back := inverseOf(p, first[0][last-1])
		for i := range first {
			first[i] = polyMultiple(p, first[i], back)
		}
	}
	return first
}

func TestP6TheGreatestDivisorIsMadeOfBoth(t *testing.T) {
	refused, long := 0, 0
	eachPair(func(p int, f, g []int) {
		want := commonOf(p, f, g)
		one, two := polyProduct(p, want[1], f), polyProduct(p, want[2], g)
		divisor, ofFirst, ofSecond, ok := impl.PolyCommon(p, f, g)
		if max(len(one), len(two)) > maxTerms {
			refused++
			if divisor != nil || ofFirst != nil || ofSecond != nil || ok {
				t.Fatal("by", p, f, g, "with products of", len(one), len(two), "numbers is", divisor, ofFirst, ofSecond, ok)
			}
			return
		}
		if len(one) == maxTerms {
			long++
		}
		if !ok || !slices.Equal(divisor, want[0]) || !slices.Equal(ofFirst, want[1]) || !slices.Equal(ofSecond, want[2]) {
			t.Fatal("by", p, f, g, "is", divisor, ofFirst, ofSecond, ok, "not", want)
		}
		checkCommon(t, p, f, g, divisor, ofFirst, ofSecond)
	})
	if refused < 100 || long < 100 {
		t.Fatal("too few are at the border:", refused, long)
	}
}

// checkCommon holds what PolyCommon returned against the promise, by the program's own products and sums.
func checkCommon(t *testing.T, p int, f, g, divisor, ofFirst, ofSecond []int) {
	t.Helper()
	one, oneOk := impl.PolyTimes(p, ofFirst, f)
	two, twoOk := impl.PolyTimes(p, ofSecond, g)
	sum, sumOk := impl.PolyAdd(p, one, two)
	if !oneOk || !twoOk || !sumOk || !slices.Equal(sum, divisor) {
		t.Fatal("by", p, f, g, "both products together are", sum, "not", divisor)
	}
	if len(f) == 0 && len(g) == 0 {
		if len(divisor) != 0 {
			t.Fatal("by", p, "of 0 and 0 is", divisor)
		}
		return
	}
	if len(divisor) == 0 || divisor[len(divisor)-1] != 1 {
		t.Fatal("by", p, f, g, "is", divisor, "whose last number is not 1")
	}
	for _, h := range [][]int{f, g} {
		if _, rest, ok := impl.PolyDivide(p, h, divisor); !ok || len(rest) != 0 {
			t.Fatal("by", p, f, g, "is", divisor, "with the rest", rest)
		}
	}
}

// TestP6NoDivisorIsGreater asks all polynomials whether they divide both.
func TestP6NoDivisorIsGreater(t *testing.T) {
	for _, small := range []struct{ p, most int }{{2, 5}, {3, 3}, {5, 2}} {
		list := allPolys(small.p, small.most)
		for _, f := range list {
			for _, g := range list {
				if len(f)+len(g) == 0 {
					continue
				}
				most := 0
				for _, d := range list[1:] {
					_, one := polyRest(small.p, f, d)
					_, two := polyRest(small.p, g, d)
					if len(one)+len(two) == 0 {
						most = max(most, len(d))
					}
				}
				if divisor, _, _, ok := impl.PolyCommon(small.p, f, g); !ok || len(divisor) != most {
					t.Fatal("by", small.p, f, g, "is", divisor, ok, "but one of", most, "numbers divides both")
				}
			}
		}
	}
}

func TestCommonExamples(t *testing.T) {
	full := slices.Repeat([]int{1}, maxTerms)
	list := []struct {
		p                          int
		f, g                       []int
		divisor, ofFirst, ofSecond []int
	}{
		{5, []int{1, 0, 4}, []int{1, 1}, []int{1, 1}, nil, []int{1}},
		{5, nil, nil, nil, []int{1}, nil},
		{2, nil, nil, nil, []int{1}, nil},
		{5, []int{1, 3}, nil, []int{2, 1}, []int{2}, nil},
		{5, nil, []int{1, 3}, []int{2, 1}, nil, []int{2}},
		{5, []int{3}, []int{2}, []int{1}, nil, []int{3}},
		{5, []int{1, 3}, []int{1, 3}, []int{2, 1}, nil, []int{2}},
		{5, []int{1, 1}, []int{1, 0, 4}, []int{1, 1}, []int{1}, nil},
		{5, []int{0, 1}, []int{1, 1}, []int{1}, []int{4}, []int{1}},
		{2, []int{1, 0, 1}, []int{1, 1}, []int{1, 1}, nil, []int{1}},
		{2, []int{0, 0, 1}, []int{1, 1}, []int{1}, []int{1}, []int{1, 1}},
		{7, []int{6, 0, 1}, []int{1, 2, 1}, []int{1, 1}, []int{3}, []int{4}},
		{13, full, nil, full, []int{1}, nil},
		{13, nil, full, full, nil, []int{1}},
		{13, full, full, full, nil, []int{1}},
	}
	for _, x := range list {
		divisor, ofFirst, ofSecond, ok := impl.PolyCommon(x.p, x.f, x.g)
		if !ok || !slices.Equal(divisor, x.divisor) || !slices.Equal(ofFirst, x.ofFirst) || !slices.Equal(ofSecond, x.ofSecond) {
			t.Fatal("by", x.p, x.f, x.g, "is", divisor, ofFirst, ofSecond, ok)
		}
	}
}

// TestCommonOfProductsThatAreTooLong has products of just MaxTerms numbers, and of one more: the rest by g, of the power 2 and 1, is the power 1, and this leaves 1.
func TestCommonOfProductsThatAreTooLong(t *testing.T) {
	g := []int{1, 0, 1}
	for _, p := range primes {
		short := polySum(p, polyProduct(p, g, power(maxTerms-4, 1)), []int{0, 1})
		less := polyMultiple(p, []int{0, 1}, p-1)
		ofSecond := polySum(p, power(maxTerms-3, 1), []int{1})
		divisor, one, two, ok := impl.PolyCommon(p, short, g)
		if len(short) != maxTerms-1 || !ok || !slices.Equal(divisor, []int{1}) || !slices.Equal(one, less) || !slices.Equal(two, ofSecond) {
			t.Fatal("by", p, short, "is", divisor, one, two, ok)
		}
		long := polySum(p, polyProduct(p, g, power(maxTerms-3, 1)), []int{0, 1})
		for _, pair := range [][2][]int{{long, g}, {g, long}} {
			divisor, one, two, ok := impl.PolyCommon(p, pair[0], pair[1])
			if len(long) != maxTerms || divisor != nil || one != nil || two != nil || ok {
				t.Fatal("by", p, pair, "is", divisor, one, two, ok)
			}
		}
	}
}

func TestP68RootsDivide(t *testing.T) {
	check := func(p int, f []int) {
		for x := range p {
			value := impl.PolyAt(p, f, x)
			if value != polyValue(p, f, x) {
				t.Fatal("by", p, f, "the value for", x, "is", value)
			}
			_, rest, ok := impl.PolyDivide(p, f, []int{(p - x) % p, 1})
			if !ok || (value == 0) != (len(rest) == 0) || value != 0 && !slices.Equal(rest, []int{value}) {
				t.Fatal("by", p, f, "the value for", x, "is", value, "and the rest", rest, ok)
			}
		}
	}
	for _, small := range []struct{ p, most int }{{2, 7}, {3, 4}, {5, 3}, {13, 2}} {
		for _, f := range allPolys(small.p, small.most) {
			check(small.p, f)
		}
	}
	c := &chance{state: 25}
	for _, p := range primes {
		for length := range maxTerms + 1 {
			check(p, c.poly(p, length))
			if length > 1 {
				check(p, polyProduct(p, []int{c.below(p), 1}, c.poly(p, length-1)))
			}
		}
	}
}

func TestAtExamples(t *testing.T) {
	full := slices.Repeat([]int{12}, maxTerms)
	list := []struct {
		p     int
		f     []int
		x     int
		value int
	}{
		{5, []int{1, 2, 3}, 2, 2},
		{5, []int{1, 2, 3}, 0, 1},
		{5, []int{1, 2, 3}, 1, 1},
		{5, nil, 0, 0},
		{5, nil, 4, 0},
		{7, []int{6}, 5, 6},
		{2, []int{1, 1}, 1, 0},
		{2, []int{1, 1}, 0, 1},
		{13, full, 1, 2},
		{13, full, 12, 0},
	}
	for _, x := range list {
		if got := impl.PolyAt(x.p, x.f, x.x); got != x.value {
			t.Fatal("by", x.p, x.f, "for", x.x, "is", got)
		}
	}
}

func TestAtOfNumbersThatAreNotValid(t *testing.T) {
	defer mustPanicNot(t, "a number that is not valid")
	for _, p := range primes {
		for _, x := range noNumbers(p) {
			for _, f := range [][]int{nil, {1}, {0, 1}, {1, 0}, make([]int, maxTerms+1)} {
				if got := impl.PolyAt(p, f, x); got != -1 {
					t.Fatal("by", p, f, "for", x, "is", got)
				}
			}
		}
	}
}

func TestP7PowersAddTheirExponents(t *testing.T) {
	c := &chance{state: 26}
	for _, p := range primes {
		for length := 2; length <= maxTerms/2; length++ {
			for _, g := range [][]int{c.poly(p, length), c.poly(p, length), power(length-1, 1), power(length-1, p-1)} {
				if got, ok := impl.PowerRest(p, g, 0); !ok || !slices.Equal(got, []int{1}) {
					t.Fatal("by", p, g, "the power 0 is", got, ok)
				}
				for range 8 {
					one := c.below(maxPower/2 + 1)
					two := c.below(maxPower/2 + 1)
					if c.below(2) == 0 {
						one, two = c.below(30), c.below(30)
					}
					checkPowers(t, p, g, one, two)
				}
				checkPowers(t, p, g, maxPower, 0)
				checkPowers(t, p, g, maxPower-1, 1)
				checkPowers(t, p, g, maxPower/2, maxPower/2)
			}
		}
	}
}

const maxPower = 1000000

func checkPowers(t *testing.T, p int, g []int, one, two int) {
	t.Helper()
	first, firstOk := impl.PowerRest(p, g, one)
	second, secondOk := impl.PowerRest(p, g, two)
	both, bothOk := impl.PowerRest(p, g, one+two)
	if !firstOk || !secondOk || !bothOk || !isPoly(p, both) || len(both) >= len(g) {
		t.Fatal("by", p, g, "the power", one+two, "is", both, bothOk)
	}
	times, timesOk := impl.PolyTimes(p, first, second)
	_, rest, restOk := impl.PolyDivide(p, times, g)
	if !timesOk || !restOk || !slices.Equal(rest, both) {
		t.Fatal("by", p, g, "the power", one+two, "is", both, "but the product of", one, "and", two, "is", rest)
	}
}

// TestP7PowersStepByStep multiplies by the power 1 again and again.
func TestP7PowersStepByStep(t *testing.T) {
	c := &chance{state: 27}
	for _, p := range primes {
		for length := 2; length <= maxTerms/2; length++ {
			g := c.poly(p, length)
			rest := []int{1}
			for n := range 70 {
				if got, ok := impl.PowerRest(p, g, n); !ok || !slices.Equal(got, rest) {
					t.Fatal("by", p, g, "the power", n, "is", got, ok, "not", rest)
				}
				_, rest = polyRest(p, polyProduct(p, rest, []int{0, 1}), g)
			}
		}
	}
	for _, p := range []int{2, 13} {
		g := append(c.unit(p, 4), 1)
		rest := []int{0, 0, 0, 1}
		for n := 3; n <= maxPower; n++ {
			if n%99991 == 0 || n > maxPower-3 {
				if got, ok := impl.PowerRest(p, g, n); !ok || !slices.Equal(got, trimmed(rest)) {
					t.Fatal("by", p, g, "the power", n, "is", got, ok, "not", rest)
				}
			}
			last := rest[3]
			rest = []int{(p - g[0]) * last % p, (rest[0] + (p-g[1])*last) % p, (rest[1] + (p-g[2])*last) % p, (rest[2] + (p-g[3])*last) % p}
		}
	}
}

func TestPowerExamples(t *testing.T) {
	list := []struct {
		p    int
		g    []int
		n    int
		rest []int
	}{
		{5, []int{4, 4, 1}, 10, []int{4}},
		{5, []int{4, 4, 1}, 0, []int{1}},
		{5, []int{4, 4, 1}, 1, []int{0, 1}},
		{5, []int{3, 1}, 1, []int{2}},
		{5, []int{3, 1}, 1000000, []int{1}},
		{5, []int{0, 1}, 0, []int{1}},
		{5, []int{0, 1}, 1, nil},
		{5, []int{0, 3}, 1000000, nil},
		{2, []int{1, 1}, 1000000, []int{1}},
		{2, []int{1, 1, 1}, 1000000, []int{0, 1}},
		{2, []int{1, 1, 1}, 999999, []int{1}},
		{7, []int{6, 0, 0, 2}, 3, []int{4}},
		{13, power(11, 12), 10, power(10, 1)},
		{13, power(11, 12), 11, nil},
	}
	for _, x := range list {
		if got, ok := impl.PowerRest(x.p, x.g, x.n); !ok || !slices.Equal(got, x.rest) {
			t.Fatal("by", x.p, x.g, "the power", x.n, "is", got, ok)
		}
	}
}

func TestPowersOfOtherExponentsAndDivisors(t *testing.T) {
	defer mustPanicNot(t, "an exponent or a divisor of PowerRest")
	c := &chance{state: 28}
	for _, p := range primes {
		for _, n := range []int{math.MinInt, -maxPower, -2, -1, maxPower + 1, 1 << 20, 1 << 32, 1<<32 + 1, 1 << 62, math.MaxInt} {
			if got, ok := impl.PowerRest(p, []int{1, 1}, n); got != nil || ok {
				t.Fatal("by", p, "the power", n, "is", got, ok)
			}
		}
		for length := range maxTerms + 2 {
			for _, n := range []int{0, 1, 5, maxPower} {
				got, ok := impl.PowerRest(p, c.poly(p, length), n)
				if right := length >= 2 && length <= maxTerms/2; ok != right || !right && got != nil {
					t.Fatal("by", p, "the power", n, "by one of", length, "numbers is", got, ok)
				}
			}
		}
	}
}

func TestPolynomialsThatAreNotValid(t *testing.T) {
	for _, p := range primes {
		for _, bad := range badPolys(p) {
			mustBeNoPoly(t, p, bad)
		}
	}
	for _, p := range noPrimes {
		for _, f := range [][]int{nil, {}, {0}, {1}, {0, 1}, {1, 1}, {p - 1}, {p}} {
			mustBeNoPoly(t, p, f)
		}
	}
}

// mustBeNoPoly asks each function for the one result that it has for a polynomial that is not valid.
func mustBeNoPoly(t *testing.T, p int, bad []int) {
	t.Helper()
	defer mustPanicNot(t, "a polynomial that is not valid")
	if impl.PolyValid(p, bad) {
		t.Fatal("PolyValid", p, bad)
	}
	for _, good := range [][]int{nil, {1}, {0, 1}, {1, 1}, power(maxTerms-1, 1), bad} {
		for _, pair := range [][2][]int{{bad, good}, {good, bad}} {
			if f, ok := impl.PolyAdd(p, pair[0], pair[1]); f != nil || ok {
				t.Fatal("PolyAdd", p, pair)
			}
			if f, ok := impl.PolyTimes(p, pair[0], pair[1]); f != nil || ok {
				t.Fatal("PolyTimes", p, pair)
			}
			if quotient, rest, ok := impl.PolyDivide(p, pair[0], pair[1]); quotient != nil || rest != nil || ok {
				t.Fatal("PolyDivide", p, pair)
			}
			if divisor, one, two, ok := impl.PolyCommon(p, pair[0], pair[1]); divisor != nil || one != nil || two != nil || ok {
				t.Fatal("PolyCommon", p, pair)
			}
		}
	}
	for _, x := range []int{-1, 0, 1, p - 1, p} {
		if impl.PolyAt(p, bad, x) != -1 {
			t.Fatal("PolyAt", p, bad, x)
		}
	}
	for _, n := range []int{-1, 0, 1, 2, maxPower, maxPower + 1} {
		if f, ok := impl.PowerRest(p, bad, n); f != nil || ok {
			t.Fatal("PowerRest", p, bad, n)
		}
	}
}
