package impl

import "slices"

// MaxPrime is the greatest prime, and MaxRows the maximum number of rows and of columns of a matrix.
const (
	MaxPrime = 13
	MaxRows  = 8
)

// PrimeOk reports whether a number is one of the primes 2, 3, 5, 7, 11 and 13.
func PrimeOk(p int) bool {
	switch p {
	case 2, 3, 5, 7, 11, MaxPrime:
		return true
	}
	return false
}

// NumValid reports whether a number is in 0..p-1, for a prime p (PrimeOk).
func NumValid(p int, a int) bool {
	return PrimeOk(p) && a >= 0 && a < p
}

// NumAdd returns the remainder, from 0 on, of the sum of two valid numbers (NumValid) by their prime; -1 for others.
func NumAdd(p int, a int, b int) int {
	if !NumValid(p, a) || !NumValid(p, b) {
		return -1
	}
	return (a + b) % p
}

// NumTimes returns the remainder, from 0 on, of the product of two valid numbers by their prime; -1 for others.
func NumTimes(p int, a int, b int) int {
	if !NumValid(p, a) || !NumValid(p, b) {
		return -1
	}
	return a * b % p
}

// NumBack returns the number whose product with a valid number that is not 0 (NumTimes) is 1; -1 for 0, and for others.
func NumBack(p int, a int) int {
	if !NumValid(p, a) {
		return -1
	}
	for b := 1; b < p; b++ {
		if a*b%p == 1 {
			return b
		}
	}
	return -1
}

// MatValid reports whether a matrix has 1..MaxRows rows of the same length, in 1..MaxRows, of valid numbers.
func MatValid(p int, m [][]int) bool {
	if len(m) < 1 || len(m) > MaxRows || len(m[0]) < 1 || len(m[0]) > MaxRows {
		return false
	}
	for _, row := range m {
		if len(row) != len(m[0]) || !allValid(p, row) {
			return false
		}
	}
	return true
}

// MatTimes returns the product of two valid matrices (MatValid), the first one with as many columns as the second one has rows: at each row and column the sum of the products of the numbers of this row of the first one and this column of the second one, one after the other; nil for others.
func MatTimes(p int, a [][]int, b [][]int) [][]int {
	if !MatValid(p, a) || !MatValid(p, b) || len(a[0]) != len(b) {
		return nil
	}
	columns := MatTurn(p, b)
	product := make([][]int, len(a))
	for i, row := range a {
		product[i] = make([]int, len(columns))
		for j, column := range columns {
			product[i][j] = sumOfProducts(p, row, column)
		}
	}
	return product
}

// MatTurn returns a valid matrix with its rows as columns; nil for others.
func MatTurn(p int, m [][]int) [][]int {
	if !MatValid(p, m) {
		return nil
	}
	turned := make([][]int, len(m[0]))
	for j := range turned {
		turned[j] = make([]int, len(m))
		for i, row := range m {
			turned[j][i] = row[j]
		}
	}
	return turned
}

// MatForm returns a valid matrix in its reduced form: for each column, from the first one on, the first row, of those that are not chosen yet, that is not 0 there, if there is one, is exchanged with the first one that is not chosen yet, is then chosen, multiplied so that it is 1 there, and taken so many times from each other row that this is 0 there; nil for others.
func MatForm(p int, m [][]int) [][]int {
	if !MatValid(p, m) {
		return nil
	}
	form := copyRows(m)
	reduceRows(p, form, len(form[0]))
	return form
}

// MatRank returns how many rows of MatForm of a valid matrix are not 0 everywhere; -1 for others.
func MatRank(p int, m [][]int) int {
	if !MatValid(p, m) {
		return -1
	}
	return len(reduceRows(p, copyRows(m), len(m[0])))
}

// MatKernel returns the rows that a valid matrix takes to 0, as far as they are enough to make all of them: for each column in which no row of MatForm has its first number that is not 0, from the first one on, the row that has 1 there, 0 at all other such columns, and whose product with each row of the matrix, number by number, has the sum 0; nil for others.
func MatKernel(p int, m [][]int) [][]int {
	if !MatValid(p, m) {
		return nil
	}
	form := copyRows(m)
	cols := len(form[0])
	chosen := reduceRows(p, form, cols)
	var kernel [][]int
	for free := range cols {
		if slices.Contains(chosen, free) {
			continue
		}
		row := make([]int, cols)
		row[free] = 1
		for i, col := range chosen {
			row[col] = negative(p, form[i][free])
		}
		kernel = append(kernel, row)
	}
	return kernel
}

// MatSolve returns the row whose product with each row of a valid matrix, number by number, has as its sum the number at the same place of a list of as many valid numbers as there are rows, and which is 0 at all columns in which no row of MatForm has its first number that is not 0, and true; nil and false if there is none, and for other arguments.
func MatSolve(p int, m [][]int, want []int) ([]int, bool) {
	if !MatValid(p, m) || len(want) != len(m) || !allValid(p, want) {
		return nil, false
	}
	cols := len(m[0])
	equations := make([][]int, len(m))
	for i, row := range m {
		equations[i] = make([]int, cols+1)
		copy(equations[i], row)
		equations[i][cols] = want[i]
	}
	chosen := reduceRows(p, equations, cols)
	for _, row := range equations[len(chosen):] {
		if row[cols] != 0 {
			return nil, false
		}
	}
	solution := make([]int, cols)
	for i, col := range chosen {
		solution[col] = equations[i][cols]
	}
	return solution, true
}

// MatDet returns the determinant of a valid matrix with as many rows as columns: the sum, over all ways to choose a number in each row, no two in the same column, of their product, less it for ways of which an odd number of pairs have the greater column first; -1 for others.
func MatDet(p int, m [][]int) int {
	if !MatValid(p, m) || len(m) != len(m[0]) {
		return -1
	}
	rows := copyRows(m)
	det := 1
	for col := range rows {
		at := firstRowWith(rows, col, col)
		if at < 0 {
			return 0
		}
		if at != col {
			rows[at], rows[col] = rows[col], rows[at]
			det = negative(p, det)
		}
		det = det * rows[col][col] % p
		back := NumBack(p, rows[col][col])
		for _, row := range rows[col+1:] {
			takeRow(p, row, rows[col], row[col]*back%p)
		}
	}
	return det
}

func allValid(p int, row []int) bool {
	for _, a := range row {
		if !NumValid(p, a) {
			return false
		}
	}
	return true
}

func negative(p int, a int) int {
	return (p - a) % p
}

func sumOfProducts(p int, a []int, b []int) int {
	sum := 0
	for i := range a {
		sum += a[i] * b[i]
	}
	return sum % p
}

// copyRows gives each row memory of its own: with one array for all, an append to one row of a result would write into the next one.
func copyRows(m [][]int) [][]int {
	rows := make([][]int, len(m))
	for i, row := range m {
		rows[i] = make([]int, len(row))
		copy(rows[i], row)
	}
	return rows
}

// reduceRows brings rows into their reduced form where they are, and returns the columns of the chosen rows. It chooses in the first cols columns alone, so that equations can have what they want behind these.
func reduceRows(p int, rows [][]int, cols int) []int {
	var chosen []int
	for col := range cols {
		top := len(chosen)
		at := firstRowWith(rows, col, top)
		if at < 0 {
			continue
		}
		rows[at], rows[top] = rows[top], rows[at]
		multiplyRow(p, rows[top], NumBack(p, rows[top][col]))
		for i, row := range rows {
			if i != top {
				takeRow(p, row, rows[top], row[col])
			}
		}
		chosen = append(chosen, col)
	}
	return chosen
}

// firstRowWith returns -1 if all rows from the given one on are 0 in the column.
func firstRowWith(rows [][]int, col int, from int) int {
	for i := from; i < len(rows); i++ {
		if rows[i][col] != 0 {
			return i
		}
	}
	return -1
}

func multiplyRow(p int, row []int, times int) {
	for i := range row {
		row[i] = row[i] * times % p
	}
}

func takeRow(p int, row []int, taken []int, times int) {
	for i := range row {
		row[i] = (row[i] + negative(p, times)*taken[i]) % p
	}
}
