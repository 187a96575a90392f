package tests

import (
	"slices"
	"testing"

	"loop.example/rationalstreams/impl"
)

// maxOrder is the document's number; the tests do not take it from the program.
const maxOrder = 6

// numbersOf is the first numbers of the stream of a recurrence, one after the other.
func numbersOf(r impl.Rec, many int) []int {
	list := slices.Clone(r.First[:min(many, len(r.First))])
	for place := len(list); place < many; place++ {
		sum := 0
		for i, times := range r.Times {
			sum += times * list[place-1-i]
		}
		list = append(list, sum%r.Prime)
	}
	return list
}

// polyOf is the polynomial of a recurrence.
func polyOf(r impl.Rec) []int {
	f := power(len(r.Times), 1)
	for i, times := range r.Times {
		f[len(r.Times)-1-i] = (r.Prime - times) % r.Prime
	}
	return f
}

// recOf is the recurrence of a polynomial that ends with 1, and of a stream's first numbers.
func recOf(p int, f []int, stream []int) impl.Rec {
	order := len(f) - 1
	r := impl.Rec{Prime: p, Times: make([]int, order), First: slices.Clone(stream[:order])}
	for i := range r.Times {
		r.Times[i] = (p - f[order-1-i]) % p
	}
	return r
}

// lengthened is another recurrence of the same stream: its polynomial is multiplied by one that ends with 1.
func lengthened(r impl.Rec, by []int) impl.Rec {
	return recOf(r.Prime, polyProduct(r.Prime, polyOf(r), by), numbersOf(r, 2*maxTerms))
}

func sameRec(a, b impl.Rec) bool {
	return a.Prime == b.Prime && slices.Equal(a.Times, b.Times) && slices.Equal(a.First, b.First)
}

func isNothing(r impl.Rec) bool {
	return sameRec(r, impl.Rec{})
}

// rec makes a mixed recurrence with so many numbers in First.
func (c *chance) rec(p, order int) impl.Rec {
	return impl.Rec{Prime: p, Times: c.row(p, order), First: c.row(p, order)}
}

// recsBy has some recurrences with so many numbers in First: mixed ones, those with last numbers of Times that are 0, and those with 0 alone.
func (c *chance) recsBy(p, order int) []impl.Rec {
	zero := make([]int, order)
	list := []impl.Rec{
		c.rec(p, order), c.rec(p, order), c.rec(p, order),
		{Prime: p, Times: zero, First: zero},
		{Prime: p, Times: c.row(p, order), First: zero},
		{Prime: p, Times: zero, First: c.row(p, order)},
		{Prime: p, Times: slices.Repeat([]int{p - 1}, order), First: slices.Repeat([]int{p - 1}, order)},
	}
	for zeros := 1; zeros <= order; zeros++ {
		r := c.rec(p, order)
		clear(r.Times[order-zeros:])
		r.First[order-1] = 1
		list = append(list, r)
	}
	if order > 0 {
		r := c.rec(p, order)
		r.Times[order-1] = 1 + c.below(p-1)
		clear(r.First)
		r.First[order-1] = 1
		list = append(list, r)
	}
	return list
}

// allRecs has every recurrence with so many numbers in First.
func allRecs(p, order int) []impl.Rec {
	var list []impl.Rec
	for _, row := range allRows(p, 2*order) {
		list = append(list, impl.Rec{Prime: p, Times: slices.Clone(row[:order]), First: slices.Clone(row[order:])})
	}
	return list
}

// smallRecs has every recurrence with at most so many numbers in First.
func smallRecs(p, most int) []impl.Rec {
	var list []impl.Rec
	for order := range most + 1 {
		list = append(list, allRecs(p, order)...)
	}
	return list
}

// eachRec gives all small recurrences, and some of all primes and of all numbers of numbers in First.
func eachRec(do func(r impl.Rec)) {
	for _, small := range []struct{ p, most int }{{2, 4}, {3, 2}, {5, 1}, {13, 1}} {
		for _, r := range smallRecs(small.p, small.most) {
			do(r)
		}
	}
	c := &chance{state: 31}
	for _, p := range primes {
		for order := range maxOrder + 1 {
			for _, r := range c.recsBy(p, order) {
				do(r)
			}
		}
	}
}

// eachTwo gives two recurrences for the same prime: all small ones, some of all numbers of numbers in First, and some with the same stream.
func eachTwo(do func(a, b impl.Rec)) {
	for _, small := range []struct{ p, most int }{{2, 2}, {3, 1}, {5, 1}} {
		list := smallRecs(small.p, small.most)
		for _, a := range list {
			for _, b := range list {
				do(a, b)
			}
		}
	}
	c := &chance{state: 32}
	for _, p := range primes {
		for one := range maxOrder + 1 {
			for two := range maxOrder + 1 {
				do(c.rec(p, one), c.rec(p, two))
				do(c.recsBy(p, one)[1+c.below(6)], c.recsBy(p, two)[1+c.below(6)])
			}
			for _, r := range c.recsBy(p, one) {
				for more := range maxOrder - one + 1 {
					same := lengthened(r, append(c.row(p, more), 1))
					do(r, same)
					do(same, r)
					do(same, lengthened(r, append(c.row(p, c.below(more+1)), 1)))
				}
			}
			a, b := lastApart(p, maxOrder-one, 1+one%maxOrder)
			do(a, b)
			do(b, a)
		}
	}
}

// lastApart is two recurrences whose numbers part only at the last place that RecSame looks at: behind First the stream of one is 0, and that of two comes back.
func lastApart(p, one, two int) (impl.Rec, impl.Rec) {
	b := impl.Rec{Prime: p, Times: power(two-1, 1), First: power(two-1, 0)}
	b.First[(one+two-1)%two] = p - 1
	a := impl.Rec{Prime: p, Times: make([]int, one), First: numbersOf(b, one)}
	return a, b
}

// badRecs has recurrences that are not valid, for a prime.
func badRecs(p int) []impl.Rec {
	list := []impl.Rec{
		{Prime: p, Times: []int{1}}, {Prime: p, First: []int{1}},
		{Prime: p, Times: []int{}, First: []int{0}}, {Prime: p, Times: []int{0}, First: []int{}},
		{Prime: p, Times: []int{1, 1}, First: []int{1}}, {Prime: p, Times: []int{1}, First: []int{1, 1}},
		{Prime: p, Times: make([]int, 6), First: make([]int, 5)}, {Prime: p, Times: make([]int, 5), First: make([]int, 6)},
		{Prime: p, Times: make([]int, 7), First: make([]int, 7)}, {Prime: p, Times: power(6, 1), First: power(6, 1)},
		{Prime: p, Times: make([]int, 7), First: make([]int, 6)}, {Prime: p, Times: make([]int, 6), First: make([]int, 7)},
		{Prime: p, Times: make([]int, 7)}, {Prime: p, First: make([]int, 7)},
		{Prime: p, Times: make([]int, 1000), First: make([]int, 1000)},
	}
	for _, a := range noNumbers(p) {
		for order := 1; order <= maxOrder; order++ {
			for place := range order {
				list = append(list,
					impl.Rec{Prime: p, Times: power(order-1, 1), First: power(order-1, 0)},
					impl.Rec{Prime: p, Times: power(order-1, 0), First: power(order-1, 1)})
				list[len(list)-2].Times[place] = a
				list[len(list)-1].First[place] = a
			}
		}
	}
	return list
}

// eachBadRec gives these for all primes, and recurrences for numbers that are no prime of the six.
func eachBadRec(do func(bad impl.Rec)) {
	for _, p := range primes {
		for _, bad := range badRecs(p) {
			do(bad)
		}
	}
	for _, p := range noPrimes {
		for order := range maxOrder + 2 {
			do(impl.Rec{Prime: p, Times: make([]int, order), First: make([]int, order)})
		}
		for _, a := range []int{1, p - 1, p} {
			do(impl.Rec{Prime: p, Times: []int{a}, First: []int{a}})
			do(impl.Rec{Prime: p, Times: []int{0, 1}, First: []int{a, 0}})
		}
	}
}

// mustRead is the recurrence of a text, so that examples can be told by texts.
func mustRead(t *testing.T, text string) impl.Rec {
	t.Helper()
	r, ok := impl.ReadRec(text)
	if !ok {
		t.Fatal("not read:", text)
	}
	return r
}
