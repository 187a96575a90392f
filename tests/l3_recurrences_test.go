package tests

import (
	"math"
	"slices"
	"testing"

	"loop.example/rationalstreams/impl"
)

func TestP70RecurrencesCanBeginWithZero(t *testing.T) {
	if impl.MaxOrder != maxOrder {
		t.Fatal("MaxOrder is", impl.MaxOrder)
	}
	eachRec(func(r impl.Rec) {
		if !impl.RecValid(r) {
			t.Fatal("not valid", r)
		}
		r.First = make([]int, len(r.First))
		if !impl.RecValid(r) {
			t.Fatal("not valid with 0 alone in First", r)
		}
		for _, a := range []int{0, 1} {
			if impl.RecValid(impl.Rec{Prime: r.Prime, Times: r.Times, First: append(slices.Clone(r.First), a)}) {
				t.Fatal("valid with a number more in First", r)
			}
			if impl.RecValid(impl.Rec{Prime: r.Prime, Times: append(slices.Clone(r.Times), a), First: r.First}) {
				t.Fatal("valid with a number more in Times", r)
			}
		}
	})
	for _, p := range primes {
		for order := range 10 {
			r := impl.Rec{Prime: p, Times: make([]int, order), First: make([]int, order)}
			if impl.RecValid(r) != (order <= maxOrder) {
				t.Fatal("with", order, "numbers in First", r)
			}
		}
		if !impl.RecValid(impl.Rec{Prime: p}) || !impl.RecValid(impl.Rec{Prime: p, Times: []int{}}) || !impl.RecValid(impl.Rec{Prime: p, First: []int{}}) {
			t.Fatal("not valid without numbers in First by", p)
		}
	}
	if impl.RecValid(impl.Rec{}) {
		t.Fatal("nothing is valid")
	}
}

func TestP71FewerAreTheBeginning(t *testing.T) {
	eachRec(func(r impl.Rec) {
		all := numbersOf(r, maxTerms)
		for many := 0; many <= maxTerms; many++ {
			list := impl.RecTerms(r, many)
			if !slices.Equal(list, all[:many]) {
				t.Fatal("the first", many, "numbers of", r, "are", list)
			}
			if many > 0 && !slices.Equal(impl.RecTerms(r, many-1), list[:many-1]) {
				t.Fatal("one fewer than", many, "numbers of", r, "are", impl.RecTerms(r, many-1))
			}
		}
		for place := len(r.First); place < maxTerms; place++ {
			sum := 0
			for i, times := range r.Times {
				sum = impl.NumAdd(r.Prime, sum, impl.NumTimes(r.Prime, times, all[place-1-i]))
			}
			if got := impl.RecTerms(r, maxTerms)[place]; got != sum {
				t.Fatal("the number", place, "of", r, "is", got, "but the sum", sum)
			}
		}
	})
}

func TestTermsExamples(t *testing.T) {
	list := []struct {
		r    impl.Rec
		many int
		want []int
	}{
		{impl.Rec{Prime: 7, Times: []int{1, 1}, First: []int{0, 1}}, 9, []int{0, 1, 1, 2, 3, 5, 1, 6, 0}},
		{impl.Rec{Prime: 7, Times: []int{2, 0, 1}, First: []int{1, 0, 3}}, 6, []int{1, 0, 3, 0, 0, 3}},
		{impl.Rec{Prime: 7, Times: []int{1, 1}, First: []int{0, 1}}, 1, []int{0}},
		{impl.Rec{Prime: 7, Times: []int{1, 1}, First: []int{4, 1}}, 2, []int{4, 1}},
		{impl.Rec{Prime: 7, Times: []int{1, 1}, First: []int{4, 1}}, 0, nil},
		{impl.Rec{Prime: 2, Times: []int{1, 1}, First: []int{1, 1}}, 5, []int{1, 1, 0, 1, 1}},
		{impl.Rec{Prime: 5}, 4, []int{0, 0, 0, 0}},
		{impl.Rec{Prime: 5}, 0, nil},
		{impl.Rec{Prime: 5, Times: []int{0}, First: []int{3}}, 4, []int{3, 0, 0, 0}},
		{impl.Rec{Prime: 5, Times: []int{2}, First: []int{3}}, 5, []int{3, 1, 2, 4, 3}},
		{impl.Rec{Prime: 13, Times: slices.Repeat([]int{12}, 6), First: slices.Repeat([]int{12}, 6)}, 8, []int{12, 12, 12, 12, 12, 12, 6, 12}},
		{impl.Rec{Prime: 13, Times: power(5, 2), First: []int{1, 2, 3, 4, 5, 6}}, 13, []int{1, 2, 3, 4, 5, 6, 2, 4, 6, 8, 10, 12, 4}},
	}
	for _, x := range list {
		if got := impl.RecTerms(x.r, x.many); !slices.Equal(got, x.want) {
			t.Fatal("the first", x.many, "of", x.r, "are", got)
		}
	}
}

func TestTermsOfOtherCounts(t *testing.T) {
	defer mustPanicNot(t, "a count of RecTerms")
	eachRec(func(r impl.Rec) {
		for _, many := range []int{math.MinInt, -1000, -2, -1, maxTerms + 1, maxTerms + 2, 1000, 1 << 32, 1<<32 + 1, math.MaxInt} {
			if got := impl.RecTerms(r, many); got != nil {
				t.Fatal("the first", many, "of", r, "are", got)
			}
		}
	})
}

func TestP72ThePolynomialTakesTheStreamToZero(t *testing.T) {
	eachRec(func(r impl.Rec) {
		f := impl.RecPoly(r)
		if !impl.PolyValid(r.Prime, f) || len(f) != len(r.Times)+1 || f[len(f)-1] != 1 || !slices.Equal(f, polyOf(r)) {
			t.Fatal("the polynomial of", r, "is", f)
		}
		numbers := impl.RecTerms(r, maxTerms)
		for place := 0; place+len(f) <= maxTerms; place++ {
			sum := 0
			for i, a := range f {
				sum += a * numbers[place+i]
			}
			if sum%r.Prime != 0 {
				t.Fatal("the polynomial", f, "of", r, "does not take it to 0 from", place, "on")
			}
		}
	})
}

func TestRecPolyExamples(t *testing.T) {
	list := []struct {
		r    impl.Rec
		want []int
	}{
		{impl.Rec{Prime: 7, Times: []int{1, 1}, First: []int{0, 1}}, []int{6, 6, 1}},
		{impl.Rec{Prime: 7, Times: []int{1, 2, 3}, First: []int{0, 0, 0}}, []int{4, 5, 6, 1}},
		{impl.Rec{Prime: 5}, []int{1}},
		{impl.Rec{Prime: 2, Times: []int{1, 0}, First: []int{1, 1}}, []int{0, 1, 1}},
		{impl.Rec{Prime: 3, Times: []int{0}, First: []int{2}}, []int{0, 1}},
		{impl.Rec{Prime: 13, Times: []int{0, 0, 0, 0, 0, 12}, First: []int{1, 1, 1, 1, 1, 1}}, []int{1, 0, 0, 0, 0, 0, 1}},
	}
	for _, x := range list {
		if got := impl.RecPoly(x.r); !slices.Equal(got, x.want) {
			t.Fatal("the polynomial of", x.r, "is", got)
		}
	}
}

func TestP9PowersReachFar(t *testing.T) {
	eachRec(func(r impl.Rec) {
		next := impl.RecNext(r)
		for place, number := range numbersOf(r, 40) {
			if got := impl.RecFar(r, place); got != number {
				t.Fatal("the number at", place, "of", r, "is", got, "not", number)
			}
			if place < maxTerms && impl.RecTerms(r, maxTerms)[place] != number {
				t.Fatal("RecTerms tells another at", place, "of", r)
			}
		}
		for _, place := range []int{1, 2, 5, 6, 7, 23, 24, 100, 1023, 1024, 65537, 524288, 999999, 1000000} {
			if one, two := impl.RecFar(r, place), impl.RecFar(next, place-1); one != two || one < 0 || one >= r.Prime {
				t.Fatal("the number at", place, "of", r, "is", one, "but of the next stream at the place before", two)
			}
		}
	})
}

// TestP9FarStepByStep goes all the way number by number.
func TestP9FarStepByStep(t *testing.T) {
	c := &chance{state: 33}
	for _, p := range primes {
		r := c.rec(p, 1+p%maxOrder)
		r.Times[len(r.Times)-1] = 1
		r.First[0] = 1
		numbers := numbersOf(r, maxPower+1)
		for place := 0; place <= maxPower; place += 9973 {
			if got := impl.RecFar(r, place); got != numbers[place] {
				t.Fatal("the number at", place, "of", r, "is", got, "not", numbers[place])
			}
		}
		for place := maxPower - 20; place <= maxPower; place++ {
			if got := impl.RecFar(r, place); got != numbers[place] {
				t.Fatal("the number at", place, "of", r, "is", got, "not", numbers[place])
			}
		}
	}
}

func TestFarExamples(t *testing.T) {
	list := []struct {
		r     impl.Rec
		place int
		want  int
	}{
		{impl.Rec{Prime: 7, Times: []int{1, 1}, First: []int{0, 1}}, 100, 3},
		{impl.Rec{Prime: 7, Times: []int{1, 1}, First: []int{0, 1}}, 0, 0},
		{impl.Rec{Prime: 7, Times: []int{1, 1}, First: []int{0, 1}}, 1, 1},
		{impl.Rec{Prime: 7, Times: []int{1, 1}, First: []int{0, 1}}, 1000000, 0},
		{impl.Rec{Prime: 5}, 0, 0},
		{impl.Rec{Prime: 5}, 1, 0},
		{impl.Rec{Prime: 5}, 1000000, 0},
		{impl.Rec{Prime: 5, Times: []int{0}, First: []int{3}}, 0, 3},
		{impl.Rec{Prime: 5, Times: []int{0}, First: []int{3}}, 1, 0},
		{impl.Rec{Prime: 5, Times: []int{0}, First: []int{3}}, 1000000, 0},
		{impl.Rec{Prime: 5, Times: []int{2}, First: []int{3}}, 999999, 4},
		{impl.Rec{Prime: 5, Times: []int{2}, First: []int{3}}, 1000000, 3},
		{impl.Rec{Prime: 13, Times: power(5, 1), First: []int{7, 8, 9, 10, 11, 12}}, 1000000, 11},
		{impl.Rec{Prime: 13, Times: make([]int, 6), First: []int{7, 8, 9, 10, 11, 12}}, 5, 12},
		{impl.Rec{Prime: 13, Times: make([]int, 6), First: []int{7, 8, 9, 10, 11, 12}}, 6, 0},
		{impl.Rec{Prime: 2, Times: []int{1, 1}, First: []int{1, 0}}, 1000000, 0},
		{impl.Rec{Prime: 2, Times: []int{1, 1}, First: []int{1, 0}}, 999999, 1},
	}
	for _, x := range list {
		if got := impl.RecFar(x.r, x.place); got != x.want {
			t.Fatal("the number at", x.place, "of", x.r, "is", got)
		}
	}
}

func TestFarAtOtherPlaces(t *testing.T) {
	defer mustPanicNot(t, "a place of RecFar")
	eachRec(func(r impl.Rec) {
		for _, place := range []int{math.MinInt, -maxPower, -2, -1, maxPower + 1, maxPower + 2, 1 << 20, 1 << 32, 1<<32 + 1, math.MaxInt} {
			if got := impl.RecFar(r, place); got != -1 {
				t.Fatal("the number at", place, "of", r, "is", got)
			}
		}
	})
}

func TestP10AFewNumbersDecide(t *testing.T) {
	places := []int{0, 1, 11, 12, 13, 50, 999, 65535, 999999, 1000000}
	held := 0
	eachTwo(func(a, b impl.Rec) {
		same := impl.RecSame(a, b)
		if same != slices.Equal(numbersOf(a, 60), numbersOf(b, 60)) || same != impl.RecSame(b, a) {
			t.Fatal("the same of", a, b, "is", same)
		}
		few := len(a.First) + len(b.First)
		if same == !slices.Equal(impl.RecTerms(a, few), impl.RecTerms(b, few)) {
			t.Fatal("the same of", a, b, "is", same, "against the first numbers")
		}
		if !same {
			return
		}
		if !sameRec(a, b) {
			held++
		}
		for _, place := range places {
			if impl.RecFar(a, place) != impl.RecFar(b, place) {
				t.Fatal("the same are", a, b, "but not at", place)
			}
		}
	})
	if held < 500 {
		t.Fatal("only", held, "times two different ones had the same stream")
	}
}

func TestP10SameExamples(t *testing.T) {
	list := []struct {
		a, b impl.Rec
		want bool
	}{
		{impl.Rec{Prime: 7}, impl.Rec{Prime: 7}, true},
		{impl.Rec{Prime: 7}, impl.Rec{Prime: 5}, false},
		{impl.Rec{Prime: 7}, impl.Rec{Prime: 7, Times: []int{3}, First: []int{0}}, true},
		{impl.Rec{Prime: 7}, impl.Rec{Prime: 7, Times: []int{3}, First: []int{1}}, false},
		{impl.Rec{Prime: 7}, impl.Rec{Prime: 7, Times: make([]int, 6), First: make([]int, 6)}, true},
		{impl.Rec{Prime: 7}, impl.Rec{Prime: 7, Times: make([]int, 6), First: power(5, 1)}, false},
		{impl.Rec{Prime: 7, Times: []int{1}, First: []int{3}}, impl.Rec{Prime: 7, Times: []int{0, 1}, First: []int{3, 3}}, true},
		{impl.Rec{Prime: 7, Times: []int{1}, First: []int{3}}, impl.Rec{Prime: 5, Times: []int{1}, First: []int{3}}, false},
		{impl.Rec{Prime: 7, Times: []int{1}, First: []int{0}}, impl.Rec{Prime: 7, Times: []int{2}, First: []int{0}}, true},
		{impl.Rec{Prime: 7, Times: []int{1}, First: []int{1}}, impl.Rec{Prime: 7, Times: []int{2}, First: []int{1}}, false},
		{impl.Rec{Prime: 2, Times: []int{1, 1}, First: []int{1, 1}}, impl.Rec{Prime: 2, Times: []int{0, 0, 1}, First: []int{1, 1, 0}}, true},
		{impl.Rec{Prime: 2, Times: []int{1, 1}, First: []int{1, 1}}, impl.Rec{Prime: 2, Times: []int{0, 0, 1}, First: []int{1, 1, 1}}, false},
	}
	for _, x := range list {
		if got := impl.RecSame(x.a, x.b); got != x.want {
			t.Fatal("the same of", x.a, x.b, "is", got)
		}
	}
}

// TestP10TheLastOneDecides has two streams that part only at the last number that is looked at.
func TestP10TheLastOneDecides(t *testing.T) {
	for _, p := range primes {
		for one := range maxOrder + 1 {
			for two := 1; two <= maxOrder; two++ {
				a, b := lastApart(p, one, two)
				few := one + two
				if !slices.Equal(numbersOf(a, few-1), numbersOf(b, few-1)) || slices.Equal(numbersOf(a, few), numbersOf(b, few)) {
					t.Fatal("these do not part at the last one", a, b)
				}
				if impl.RecSame(a, b) || impl.RecSame(b, a) {
					t.Fatal("the same are", a, b)
				}
			}
		}
	}
}

func TestP73TheNextStreamIsOneLater(t *testing.T) {
	eachRec(func(r impl.Rec) {
		numbers := numbersOf(r, maxTerms+maxOrder+1)
		next := impl.RecNext(r)
		if !sameRec(next, impl.Rec{Prime: r.Prime, Times: r.Times, First: numbers[1 : len(r.First)+1]}) || !impl.RecValid(next) {
			t.Fatal("next of", r, "is", next)
		}
		if !slices.Equal(impl.RecTerms(next, maxTerms-1), impl.RecTerms(r, maxTerms)[1:]) {
			t.Fatal("next of", r, "has the numbers", impl.RecTerms(next, maxTerms-1))
		}
		for later := 2; later <= maxOrder+1; later++ {
			next = impl.RecNext(next)
			if !slices.Equal(impl.RecTerms(next, maxTerms), numbers[later:][:maxTerms]) {
				t.Fatal(later, "later", r, "is", next)
			}
		}
	})
}

func TestP74EachNumberSoManyTimes(t *testing.T) {
	eachRec(func(r impl.Rec) {
		numbers := numbersOf(r, maxTerms)
		for times := range r.Prime {
			got := impl.RecTimes(r, times)
			want := impl.Rec{Prime: r.Prime, Times: r.Times}
			for _, a := range r.First {
				want.First = append(want.First, a*times%r.Prime)
			}
			if !sameRec(got, want) || !impl.RecValid(got) {
				t.Fatal(r, times, "times is", got)
			}
			for place, a := range impl.RecTerms(got, maxTerms) {
				if a != numbers[place]*times%r.Prime {
					t.Fatal(r, times, "times is", got, "which differs at", place)
				}
			}
		}
		if !sameRec(impl.RecTimes(r, 1), r) {
			t.Fatal(r, "once is", impl.RecTimes(r, 1))
		}
		for _, times := range noNumbers(r.Prime) {
			if got := impl.RecTimes(r, times); !isNothing(got) {
				t.Fatal(r, times, "times is", got)
			}
		}
	})
}

func TestP11SumsOfStreamsHaveRecurrences(t *testing.T) {
	eachTwo(func(a, b impl.Rec) {
		got, ok := impl.RecAdd(a, b)
		other, otherOk := impl.RecAdd(b, a)
		order := len(a.First) + len(b.First)
		if ok != (order <= maxOrder) || otherOk != ok {
			t.Fatal("the sum of", a, b, "with", order, "numbers in First is", got, ok)
		}
		if !ok {
			if !isNothing(got) || !isNothing(other) {
				t.Fatal("no sum of", a, b, "but", got, other)
			}
			return
		}
		p := a.Prime
		sums := make([]int, maxTerms)
		for place := range sums {
			sums[place] = (numbersOf(a, maxTerms)[place] + numbersOf(b, maxTerms)[place]) % p
		}
		if !sameRec(got, recOf(p, polyProduct(p, polyOf(a), polyOf(b)), sums)) || !impl.RecValid(got) {
			t.Fatal("the sum of", a, b, "is", got)
		}
		if !slices.Equal(impl.RecTerms(got, maxTerms), sums) || !impl.RecSame(got, other) || !sameRec(got, other) {
			t.Fatal("the sum of", a, b, "is", got, "exchanged", other)
		}
	})
}

func TestP11SumsOfJustMaxOrderAndOfOneMore(t *testing.T) {
	c := &chance{state: 34}
	for _, p := range primes {
		for order := range maxOrder + 1 {
			a := c.rec(p, order)
			got, ok := impl.RecAdd(a, c.rec(p, maxOrder-order))
			if !ok || len(got.First) != maxOrder || len(got.Times) != maxOrder || got.Prime != p {
				t.Fatal("with", order, "of", maxOrder, "numbers in First it is", got, ok)
			}
			if order == 0 {
				continue
			}
			for _, b := range c.recsBy(p, maxOrder-order+1) {
				if got, ok := impl.RecAdd(a, b); ok || !isNothing(got) {
					t.Fatal("the sum of", a, b, "is", got, ok)
				}
			}
		}
	}
}

func TestAddRecExamples(t *testing.T) {
	list := []struct{ a, b, sum impl.Rec }{
		{impl.Rec{Prime: 7, Times: []int{1, 1}, First: []int{0, 1}}, impl.Rec{Prime: 7, Times: []int{1}, First: []int{3}}, impl.Rec{Prime: 7, Times: []int{2, 0, 6}, First: []int{3, 4, 4}}},
		{impl.Rec{Prime: 7, Times: []int{3, 6}, First: []int{0, 1}}, impl.Rec{Prime: 7, Times: []int{1}, First: []int{0}}, impl.Rec{Prime: 7, Times: []int{4, 3, 1}, First: []int{0, 1, 3}}},
		{impl.Rec{Prime: 7}, impl.Rec{Prime: 7}, impl.Rec{Prime: 7}},
		{impl.Rec{Prime: 7}, impl.Rec{Prime: 7, Times: []int{2, 5}, First: []int{6, 1}}, impl.Rec{Prime: 7, Times: []int{2, 5}, First: []int{6, 1}}},
		{impl.Rec{Prime: 2, Times: []int{1}, First: []int{1}}, impl.Rec{Prime: 2, Times: []int{1}, First: []int{1}}, impl.Rec{Prime: 2, Times: []int{0, 1}, First: []int{0, 0}}},
		{impl.Rec{Prime: 5, Times: []int{0}, First: []int{4}}, impl.Rec{Prime: 5, Times: []int{0, 0}, First: []int{3, 2}}, impl.Rec{Prime: 5, Times: []int{0, 0, 0}, First: []int{2, 2, 0}}},
	}
	for _, x := range list {
		if got, ok := impl.RecAdd(x.a, x.b); !ok || !sameRec(got, x.sum) {
			t.Fatal("the sum of", x.a, x.b, "is", got, ok)
		}
	}
}

func TestDifferentPrimes(t *testing.T) {
	c := &chance{state: 35}
	for _, p := range primes {
		for _, q := range primes {
			if p == q {
				continue
			}
			for order := range maxOrder + 1 {
				for other := range maxOrder + 1 {
					zero := impl.Rec{Prime: p, Times: make([]int, order), First: make([]int, order)}
					otherZero := impl.Rec{Prime: q, Times: make([]int, other), First: make([]int, other)}
					for _, pair := range [][2]impl.Rec{{zero, otherZero}, {c.rec(p, order), c.rec(q, other)}} {
						if impl.RecSame(pair[0], pair[1]) {
							t.Fatal("the same are", pair)
						}
						if sum, ok := impl.RecAdd(pair[0], pair[1]); ok || !isNothing(sum) {
							t.Fatal("the sum of", pair, "is", sum, ok)
						}
					}
				}
			}
		}
	}
}

func TestRecurrencesThatAreNotValid(t *testing.T) {
	eachBadRec(func(bad impl.Rec) { mustBeNoRec(t, bad) })
}

// mustBeNoRec asks each function for the one result that it has for a recurrence that is not valid.
func mustBeNoRec(t *testing.T, bad impl.Rec) {
	t.Helper()
	defer mustPanicNot(t, "a recurrence that is not valid")
	if impl.RecValid(bad) || impl.RecPoly(bad) != nil || impl.RecText(bad) != "" || !isNothing(impl.RecNext(bad)) {
		t.Fatal("it is not valid, but", bad, "is", impl.RecValid(bad), impl.RecPoly(bad), impl.RecText(bad), impl.RecNext(bad))
	}
	if from, many, ok := impl.RecCircle(bad); from != 0 || many != 0 || ok {
		t.Fatal("RecCircle", bad, from, many, ok)
	}
	for _, number := range []int{-1, 0, 1, 2, 6, maxTerms, maxTerms + 1, maxPower, maxPower + 1} {
		if impl.RecTerms(bad, number) != nil || impl.RecFar(bad, number) != -1 || !isNothing(impl.RecTimes(bad, number)) {
			t.Fatal("with", number, bad, "is", impl.RecTerms(bad, number), impl.RecFar(bad, number), impl.RecTimes(bad, number))
		}
	}
	for _, good := range []impl.Rec{{Prime: 2}, {Prime: bad.Prime}, {Prime: 13, Times: []int{1}, First: []int{1}}, {Prime: bad.Prime, Times: []int{1}, First: []int{1}}, bad} {
		for _, pair := range [][2]impl.Rec{{bad, good}, {good, bad}} {
			if impl.RecSame(pair[0], pair[1]) {
				t.Fatal("RecSame", pair)
			}
			if sum, ok := impl.RecAdd(pair[0], pair[1]); ok || !isNothing(sum) {
				t.Fatal("RecAdd", pair, sum, ok)
			}
		}
	}
}
