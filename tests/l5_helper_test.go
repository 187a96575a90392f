package tests

import (
	"math"
	"slices"
	"testing"

	"loop.example/rationalstreams/impl"
)

// maxRows is the document's number of rows and columns of a matrix; the tests do not take it from the program.
const maxRows = 8

// rankOf is how many rows are left that are not made of those before them.
func rankOf(p int, m [][]int) int {
	rank := 0
	for rows := cloned(m); len(rows) > 0; rows = rows[1:] {
		row := rows[0]
		col := slices.IndexFunc(row, func(a int) bool { return a != 0 })
		if col < 0 {
			continue
		}
		rank++
		for _, other := range rows[1:] {
			times := other[col] * inverseOf(p, row[col]) % p
			for j := range other {
				other[j] = (other[j] + (p-times)*row[j]) % p
			}
		}
	}
	return rank
}

// equationsOf has, for each number behind the first ones, as many numbers before it as there are first ones, the last one first, and then this number.
func equationsOf(s []int, order int) [][]int {
	var rows [][]int
	for place := order; place < len(s); place++ {
		row := make([]int, order+1)
		for i := range order {
			row[i] = s[place-1-i]
		}
		row[order] = s[place]
		rows = append(rows, row)
	}
	return rows
}

// firstColumns is a matrix without the columns behind so many.
func firstColumns(m [][]int, cols int) [][]int {
	rows := make([][]int, len(m))
	for i := range m {
		rows[i] = m[i][:cols]
	}
	return rows
}

// solvable tells by ranks whether so many first numbers can lead to all others.
func solvable(p int, s []int, order int) bool {
	equations := equationsOf(s, order)
	return rankOf(p, firstColumns(equations, order)) == rankOf(p, equations)
}

// ordersBy is the order of each beginning, by ranks.
func ordersBy(p int, s []int) []int {
	orders := make([]int, len(s))
	order := 0
	for i := range s {
		for !solvable(p, s[:i+1], order) {
			order++
		}
		orders[i] = order
	}
	return orders
}

// lastOrder is the order of the whole beginning.
func lastOrder(orders []int) int {
	if len(orders) == 0 {
		return 0
	}
	return orders[len(orders)-1]
}

// shortestByTrying tries all Times of each order, the last number growing last: so the first one that is right has 0 wherever it can be made so by the numbers before.
func shortestByTrying(p int, s []int) (impl.Rec, bool) {
	for order := range min(len(s), maxOrder) + 1 {
		r := impl.Rec{Prime: p, Times: make([]int, order), First: slices.Clone(s[:order])}
		for more := true; more; more = countUp(p, r.Times) {
			if leadsTo(r, s) {
				return r, true
			}
		}
	}
	return impl.Rec{}, false
}

// leadsTo reports whether a stream begins so.
func leadsTo(r impl.Rec, s []int) bool {
	order := len(r.Times)
	for place := order; place < len(s); place++ {
		sum := 0
		for i, times := range r.Times {
			sum += times * s[place-1-i]
		}
		if sum%r.Prime != s[place] {
			return false
		}
	}
	return slices.Equal(r.First, s[:order])
}

// countUp makes the next row, the first number growing first, and is false behind the last one.
func countUp(p int, row []int) bool {
	for i := range row {
		row[i]++
		if row[i] < p {
			return true
		}
		row[i] = 0
	}
	return false
}

// tableBy is the table of a stream, number by number.
func tableBy(s []int, rows, cols int) [][]int {
	m := zeros(rows, cols)
	for i := range rows {
		for j := range cols {
			m[i][j] = s[i+j]
		}
	}
	return m
}

// altered is a beginning with another number at a place.
func (c *chance) altered(p int, s []int, place int) []int {
	other := slices.Clone(s)
	other[place] = (other[place] + 1 + c.below(p-1)) % p
	return other
}

// startsBy has some beginnings of so many numbers: mixed ones, those of 0 alone, those that are 0 up to a place or up to the last one, those of recurrences, also of longer ones than are valid, and those of recurrences but for one number or for the last one.
func (c *chance) startsBy(p, length int) [][]int {
	list := [][]int{c.row(p, length), make([]int, length), slices.Repeat([]int{p - 1}, length)}
	for _, most := range []int{2, maxOrder + 1, 2 * maxOrder} {
		list = append(list, numbersOf(c.rec(p, c.below(most)), length))
	}
	if length == 0 {
		return list
	}
	for _, s := range slices.Clone(list[1:]) {
		list = append(list, c.altered(p, s, length-1), c.altered(p, s, c.below(length)))
	}
	return append(list, append(make([]int, length/2), c.row(p, length-length/2)...))
}

// eachStart gives beginnings: all short ones, some of all primes and of all numbers of numbers, and those of recurrences of all numbers of numbers in First.
func eachStart(do func(p int, s []int)) {
	for _, small := range []struct{ p, most int }{{2, 8}, {3, 5}, {5, 3}, {7, 2}, {13, 2}} {
		for length := range small.most + 1 {
			for _, s := range allRows(small.p, length) {
				do(small.p, s)
			}
		}
	}
	c := &chance{state: 51}
	for _, p := range primes {
		for length := range maxTerms + 1 {
			for _, s := range c.startsBy(p, length) {
				do(p, s)
			}
		}
		for order := range maxOrder + 2 {
			for _, r := range c.recsBy(p, order) {
				s := numbersOf(r, maxTerms)
				for _, length := range []int{order, order + 1, max(2*order-1, 0), 2 * order, 2*order + 1, maxTerms} {
					do(p, s[:length])
				}
			}
		}
	}
}

// eachBadStart gives beginnings that are not valid, for all primes, and beginnings for numbers that are no prime of the six.
func eachBadStart(do func(p int, bad []int)) {
	for _, p := range primes {
		for _, bad := range badBeginnings(p) {
			do(p, bad)
		}
		for _, a := range noNumbers(p) {
			for _, length := range []int{1, 2, maxOrder, maxOrder + 1, 2*maxRows - 1, maxTerms} {
				for place := range length {
					do(p, append(power(place, a), make([]int, length-1-place)...))
				}
			}
		}
	}
	for _, p := range noPrimes {
		for _, s := range [][]int{nil, {}, {0}, {1}, {0, 0}, {0, 1}, {1, 1}, {p - 1}, {p}, make([]int, 2*maxRows-1), make([]int, maxTerms)} {
			do(p, s)
		}
	}
}

// noCounts has numbers that are below all that a function takes, or above, some of them only beside their low 32 bits.
func noCounts(least, most int) []int {
	return []int{math.MinInt, math.MinInt + 1, -(1 << 32) + least, -1000, least - 2, least - 1, most + 1, most + 2, 1000, 1<<32 + least, 1<<32 + most, math.MaxInt - 1, math.MaxInt}
}

// mustBeShortest holds a result of ShortestRec against the order of a beginning, its equations, and which of their columns are made of the ones before.
func mustBeShortest(t *testing.T, p int, s []int, order int) {
	t.Helper()
	got, ok := impl.ShortestRec(p, s)
	if ok != (order <= maxOrder) {
		t.Fatal("by", p, "the shortest of", s, "is", got, ok, "but its order is", order)
	}
	if !ok {
		if !isNothing(got) {
			t.Fatal("by", p, "none is the shortest of", s, "but", got)
		}
		return
	}
	if !impl.RecValid(got) || got.Prime != p || len(got.First) != order || !leadsTo(got, s) || !slices.Equal(impl.RecTerms(got, len(s)), s) {
		t.Fatal("by", p, "the shortest of", s, "is", got, "but its order is", order)
	}
	equations := equationsOf(s, order)
	for col, times := range got.Times {
		made := rankOf(p, firstColumns(equations, col+1)) == rankOf(p, firstColumns(equations, col))
		if made && times != 0 {
			t.Fatal("by", p, "the shortest of", s, "is", got, "with a number that can be 0 at", col)
		}
	}
}
