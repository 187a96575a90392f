package tests

import (
	"math"
	"slices"
	"testing"
)

var primes = []int{2, 3, 5, 7, 11, 13}

// noPrimes has numbers that are no prime of the six; the great ones are a prime of the six in their low 8 or 32 bits.
var noPrimes = []int{math.MinInt, math.MinInt + 2, -13, -7, -2, -1, 0, 1, 4, 6, 8, 9, 10, 12, 14, 15, 16, 17, 19, 23, 29, 169, 256 + 7, 1<<32 + 2, 1<<32 + 13, math.MaxInt}

// noNumbers has numbers that are not valid for a prime.
func noNumbers(p int) []int {
	return []int{math.MinInt, math.MinInt + 1, -p - 1, -p, -1, p, p + 1, 2 * p, 256, 1 << 32, 1<<32 + 1, math.MaxInt}
}

// chance is a row of numbers that looks mixed and is the same in each run.
type chance struct{ state uint64 }

func (c *chance) below(limit int) int {
	c.state = c.state*6364136223846793005 + 1442695040888963407
	return int(c.state>>33) % limit
}

func (c *chance) row(p, length int) []int {
	row := make([]int, length)
	for i := range row {
		row[i] = c.below(p)
	}
	return row
}

func (c *chance) matrix(p, rows, cols int) [][]int {
	m := make([][]int, rows)
	for i := range m {
		m[i] = c.row(p, cols)
	}
	return m
}

// form makes a matrix in reduced form with so many rows that are not 0, and the columns at which they begin.
func (c *chance) form(p, rows, cols, rank int) ([][]int, []int) {
	var begin []int
	for col := range cols {
		if c.below(cols-col) < rank-len(begin) {
			begin = append(begin, col)
		}
	}
	m := zeros(rows, cols)
	for i, first := range begin {
		for col := first; col < cols; col++ {
			if !slices.Contains(begin, col) {
				m[i][col] = c.below(p)
			}
		}
		m[i][first] = 1
	}
	return m, begin
}

// invertible makes a square matrix of which the determinant is known and is not 0.
func (c *chance) invertible(p, n int) ([][]int, int) {
	low, high := c.matrix(p, n, n), c.matrix(p, n, n)
	det := 1
	for i := range n {
		for j := range i {
			low[j][i], high[i][j] = 0, 0
		}
		low[i][i], high[i][i] = 1, 1+c.below(p-1)
		det = det * high[i][i] % p
	}
	m := product(p, low, high)
	for k := range n {
		other := c.below(n)
		if other != k {
			m[k], m[other] = m[other], m[k]
			det = (p - det) % p
		}
	}
	return m, det
}

func zeros(rows, cols int) [][]int {
	m := make([][]int, rows)
	for i := range m {
		m[i] = make([]int, cols)
	}
	return m
}

func ones(n int) [][]int {
	m := zeros(n, n)
	for i := range m {
		m[i][i] = 1
	}
	return m
}

func product(p int, a, b [][]int) [][]int {
	m := zeros(len(a), len(b[0]))
	for i := range a {
		for j := range b[0] {
			for k := range b {
				m[i][j] = (m[i][j] + a[i][k]*b[k][j]) % p
			}
		}
	}
	return m
}

func turned(m [][]int) [][]int {
	t := zeros(len(m[0]), len(m))
	for i := range m {
		for j := range m[i] {
			t[j][i] = m[i][j]
		}
	}
	return t
}

func cloned(m [][]int) [][]int {
	if m == nil {
		return nil
	}
	c := make([][]int, len(m))
	for i := range m {
		c[i] = slices.Clone(m[i])
	}
	return c
}

func equal(a, b [][]int) bool {
	return slices.EqualFunc(a, b, slices.Equal[[]int])
}

func isZero(row []int) bool {
	for _, a := range row {
		if a != 0 {
			return false
		}
	}
	return true
}

// timesRow is the sums of the products of each row of a matrix and a row, number by number.
func timesRow(p int, m [][]int, row []int) []int {
	sums := make([]int, len(m))
	for i := range m {
		for j := range row {
			sums[i] = (sums[i] + m[i][j]*row[j]) % p
		}
	}
	return sums
}

// allRows has every row of that length.
func allRows(p, length int) [][]int {
	rows := [][]int{{}}
	for range length {
		var longer [][]int
		for _, row := range rows {
			for a := range p {
				longer = append(longer, append(slices.Clone(row), a))
			}
		}
		rows = longer
	}
	return rows
}

// allMatrices has every matrix of that many rows and columns.
func allMatrices(p, rows, cols int) [][][]int {
	var list [][][]int
	for _, all := range allRows(p, rows*cols) {
		m := make([][]int, rows)
		for i := range m {
			m[i] = all[i*cols : (i+1)*cols : (i+1)*cols]
		}
		list = append(list, m)
	}
	return list
}

// eachSmall gives every matrix of some small sizes.
func eachSmall(do func(p int, m [][]int)) {
	sizes := []struct{ p, rows, cols int }{{2, 1, 1}, {2, 1, 3}, {2, 3, 1}, {2, 2, 2}, {2, 2, 3}, {2, 3, 2}, {2, 3, 3}, {2, 2, 4}, {3, 1, 2}, {3, 2, 2}, {3, 2, 3}, {3, 3, 2}, {5, 2, 2}, {5, 1, 3}, {13, 1, 2}, {13, 1, 1}, {7, 2, 1}}
	for _, s := range sizes {
		for _, m := range allMatrices(s.p, s.rows, s.cols) {
			do(s.p, m)
		}
	}
}

// eachMixed gives matrices of all primes and all sizes: mixed ones, some of little rank, and some of 0 alone.
func eachMixed(do func(p int, m [][]int)) {
	c := &chance{state: 1}
	for _, p := range primes {
		for rows := 1; rows <= 8; rows++ {
			for cols := 1; cols <= 8; cols++ {
				do(p, c.matrix(p, rows, cols))
				do(p, zeros(rows, cols))
				middle := 1 + c.below(min(rows, cols))
				do(p, product(p, c.matrix(p, rows, middle), c.matrix(p, middle, cols)))
			}
		}
	}
}

// badMatrices has matrices that are not valid for a prime.
func badMatrices(p int) [][][]int {
	bad := [][][]int{
		nil, {}, {nil}, {{}}, {{}, {}}, {nil, nil}, {{}, {1}}, {{1}, {}}, {{1}, nil}, {nil, {1}},
		{{1, 0}, {1}}, {{1}, {1, 0}}, {{1, 0}, {0, 1}, {1, 0, 1}}, {{1, 0}, {0, 1}, {1}}, {{1, 1}, {0, 1, 1}, {1, 0}},
		zeros(9, 1), zeros(1, 9), zeros(9, 9), zeros(9, 8), zeros(8, 9), ones(9), zeros(100, 100),
	}
	for _, a := range noNumbers(p) {
		bad = append(bad, [][]int{{a}}, [][]int{{0, 1}, {1, a}}, [][]int{{a, 1}, {1, 0}}, [][]int{{0, a}, {1, 0}}, [][]int{{1, 0}, {a, 0}})
	}
	return bad
}

// mustPanicNot names the call that panicked; without it a panic tells only where.
func mustPanicNot(t *testing.T, what string) {
	if r := recover(); r != nil {
		t.Fatal(what, "panicked:", r)
	}
}
