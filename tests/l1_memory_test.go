package tests

import (
	"slices"
	"testing"

	"loop.example/rationalstreams/impl"
)

// packed lays the rows of a matrix one behind the other, so that an append to one of them would write into the next one.
func packed(m [][]int) ([][]int, []int) {
	var all []int
	for _, row := range m {
		all = append(all, row...)
	}
	rows := make([][]int, len(m), len(m)+3)
	at := 0
	for i := range m {
		rows[i] = all[at : at+len(m[i])]
		at += len(m[i])
	}
	return rows, all
}

// spoil writes over a row and all that an append to it could reach.
func spoil(row []int) {
	row = row[:cap(row)]
	for i := range row {
		row[i] = 1000
	}
}

// mustBeApart fails if a result shares memory between its rows, and spoils it, so that the argument can be looked at then.
func mustBeApart(t *testing.T, what string, result [][]int) {
	t.Helper()
	before := cloned(result)
	for i := range result {
		spoil(result[i])
		for k := i + 1; k < len(result); k++ {
			if !slices.Equal(result[k], before[k]) {
				t.Fatal(what, "shares memory between its rows", i, k)
			}
		}
	}
	result = result[:cap(result)]
	for i := range result {
		result[i] = nil
	}
}

func TestMatricesAreNeitherWrittenToNorShared(t *testing.T) {
	c := &chance{state: 7}
	check := func(p int, m [][]int) {
		rows, all := packed(m)
		second, allSecond := packed(c.matrix(p, len(m[0]), 1+c.below(8)))
		want := append(make([]int, 0, 20), c.row(p, len(m))...)
		before, beforeRows, beforeSecond, beforeSecondRows, beforeWant := slices.Clone(all), cloned(rows), slices.Clone(allSecond), cloned(second), slices.Clone(want)
		same := func(what string) {
			t.Helper()
			if !slices.Equal(all, before) || !equal(rows, beforeRows) || !slices.Equal(allSecond, beforeSecond) || !equal(second, beforeSecondRows) {
				t.Fatal(what, "changes its matrix", p, m)
			}
			if !slices.Equal(want, beforeWant) || !isZero(want[len(want):cap(want)]) {
				t.Fatal(what, "changes its list", p, m)
			}
		}
		impl.MatValid(p, rows)
		impl.MatRank(p, rows)
		impl.MatDet(p, rows)
		same("a question")
		mustBeApart(t, "MatTimes", impl.MatTimes(p, rows, second))
		same("MatTimes")
		mustBeApart(t, "MatTurn", impl.MatTurn(p, rows))
		same("MatTurn")
		mustBeApart(t, "MatForm", impl.MatForm(p, rows))
		same("MatForm")
		mustBeApart(t, "MatKernel", impl.MatKernel(p, rows))
		same("MatKernel")
		for _, list := range [][]int{want, timesRow(p, rows, make([]int, len(m[0])))} {
			row, _ := impl.MatSolve(p, rows, list)
			spoil(row)
			same("MatSolve")
		}
	}
	eachSmall(check)
	eachMixed(check)
	for _, p := range primes {
		for n := 1; n <= 8; n++ {
			m, _ := c.invertible(p, n)
			check(p, m)
			form, _ := c.form(p, n, 8, n/2)
			check(p, form)
			check(p, ones(n))
		}
	}
}

// TestResultsAreNotKept calls each function twice; a result that is kept would be spoilt the second time.
func TestResultsAreNotKept(t *testing.T) {
	eachMixed(func(p int, m [][]int) {
		list := []func() [][]int{
			func() [][]int { return impl.MatTimes(p, m, turned(m)) },
			func() [][]int { return impl.MatTurn(p, m) },
			func() [][]int { return impl.MatForm(p, m) },
			func() [][]int { return impl.MatKernel(p, m) },
			func() [][]int {
				row, _ := impl.MatSolve(p, m, make([]int, len(m)))
				return [][]int{row}
			},
		}
		for i, call := range list {
			first := call()
			before := cloned(first)
			mustBeApart(t, "a result", first)
			if !equal(call(), before) {
				t.Fatal("the function", i, "by", p, "of", m, "is another the second time")
			}
		}
	})
}

// TestRowsThatAreOneRow gives the same memory as two rows; each result is the one of two rows that are the same.
func TestRowsThatAreOneRow(t *testing.T) {
	row := []int{1, 2, 3}
	m := [][]int{row, row, row}
	if got := impl.MatForm(5, m); !equal(got, [][]int{{1, 2, 3}, {0, 0, 0}, {0, 0, 0}}) {
		t.Fatal("form", got)
	}
	if impl.MatRank(5, m) != 1 || impl.MatDet(5, m) != 0 || len(impl.MatKernel(5, m)) != 2 {
		t.Fatal("rank", impl.MatRank(5, m), "determinant", impl.MatDet(5, m))
	}
	if got := impl.MatTimes(5, m, m); !equal(got, [][]int{{1, 2, 3}, {1, 2, 3}, {1, 2, 3}}) {
		t.Fatal("product", got)
	}
	if got, ok := impl.MatSolve(5, m, row); got != nil || ok {
		t.Fatal("solution", got)
	}
	if !slices.Equal(row, []int{1, 2, 3}) {
		t.Fatal("written to", row)
	}
}
