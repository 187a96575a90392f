package tests

import (
	"slices"
	"testing"

	"loop.example/rationalstreams/impl"
)

// beginnings is the column at which each row of a form begins that is not 0; it fails unless the form is reduced.
func beginnings(t *testing.T, p int, form [][]int) []int {
	t.Helper()
	var begin []int
	for i, row := range form {
		first := slices.IndexFunc(row, func(a int) bool { return a != 0 })
		if first < 0 {
			continue
		}
		if len(begin) != i || i > 0 && begin[i-1] >= first {
			t.Fatal("rows not in order", p, form)
		}
		for k := range form {
			if want := ones(len(form))[i][k]; form[k][first] != want {
				t.Fatal("column", first, "not reduced", p, form)
			}
		}
		begin = append(begin, first)
	}
	return begin
}

// madeOf reports whether a row is a sum of the rows of a reduced form.
func madeOf(p int, form [][]int, begin []int, row []int) bool {
	rest := slices.Clone(row)
	for i, first := range begin {
		times := row[first]
		for j := range rest {
			rest[j] = (rest[j] + (p-times)*form[i][j]) % p
		}
	}
	return isZero(rest)
}

func TestP1OneForm(t *testing.T) {
	check := func(p int, m [][]int) {
		form := impl.MatForm(p, m)
		if !impl.MatValid(p, form) || len(form) != len(m) || len(form[0]) != len(m[0]) {
			t.Fatal("not a matrix of the same size", p, m, form)
		}
		begin := beginnings(t, p, form)
		for _, row := range m {
			if !madeOf(p, form, begin, row) {
				t.Fatal("a row is lost", p, m, form)
			}
		}
		if !equal(impl.MatForm(p, form), form) {
			t.Fatal("form of the form", p, m, form)
		}
		for i := range m {
			for k := range m {
				if i == k {
					continue
				}
				added := cloned(m)
				for j := range added[i] {
					added[i][j] = (added[i][j] + m[k][j]) % p
				}
				if !equal(impl.MatForm(p, added), form) {
					t.Fatal("with a row added", p, m, added)
				}
			}
		}
	}
	eachSmall(check)
	eachMixed(check)
}

func TestP1FormTakesTheSameRowsToZero(t *testing.T) {
	eachSmall(func(p int, m [][]int) {
		form := impl.MatForm(p, m)
		for _, row := range allRows(p, len(m[0])) {
			if isZero(timesRow(p, m, row)) != isZero(timesRow(p, form, row)) {
				t.Fatal("the row", row, p, m, form)
			}
		}
	})
}

// TestP1FormIsFoundAgain hides a known form behind sums of its rows; that finds a form that has lost rows of great matrices, too.
func TestP1FormIsFoundAgain(t *testing.T) {
	c := &chance{state: 2}
	for _, p := range primes {
		for rows := 1; rows <= 8; rows++ {
			for cols := 1; cols <= 8; cols++ {
				for rank := 0; rank <= min(rows, cols); rank++ {
					form, begin := c.form(p, rows, cols, rank)
					mix, _ := c.invertible(p, rows)
					m := product(p, mix, form)
					if got := impl.MatForm(p, m); !equal(got, form) {
						t.Fatal("by", p, "of", m, "is", got, "not", form)
					}
					if got := impl.MatRank(p, m); got != rank {
						t.Fatal("rank by", p, "of", m, "is", got, "not", rank)
					}
					checkKernel(t, p, m, begin)
				}
			}
		}
	}
}

func TestFormExamples(t *testing.T) {
	list := []struct {
		p       int
		m, form [][]int
	}{
		{5, [][]int{{2, 4, 1}, {1, 2, 3}}, [][]int{{1, 2, 3}, {0, 0, 0}}},
		{2, [][]int{{1, 1}, {1, 0}}, [][]int{{1, 0}, {0, 1}}},
		{2, [][]int{{0, 1, 1}, {0, 1, 1}, {0, 0, 1}}, [][]int{{0, 1, 0}, {0, 0, 1}, {0, 0, 0}}},
		{7, [][]int{{0, 0}, {0, 3}}, [][]int{{0, 1}, {0, 0}}},
		{13, [][]int{{12}}, [][]int{{1}}},
		{3, [][]int{{0}}, [][]int{{0}}},
		{11, zeros(8, 8), zeros(8, 8)},
		{2, ones(8), ones(8)},
	}
	for _, x := range list {
		if got := impl.MatForm(x.p, x.m); !equal(got, x.form) {
			t.Fatal("by", x.p, "of", x.m, "is", got)
		}
	}
}

// checkKernel holds MatKernel against what its sentence says, for a matrix whose form begins its rows at the columns given.
func checkKernel(t *testing.T, p int, m [][]int, begin []int) {
	t.Helper()
	cols := len(m[0])
	var free []int
	for col := range cols {
		if !slices.Contains(begin, col) {
			free = append(free, col)
		}
	}
	kernel := impl.MatKernel(p, m)
	if len(kernel) != len(free) {
		t.Fatal("by", p, m, "has", len(kernel), "rows to 0, not", len(free))
	}
	for i, row := range kernel {
		if len(row) != cols || !isZero(timesRow(p, m, row)) {
			t.Fatal("by", p, m, "the row", row, "is not taken to 0")
		}
		for k, col := range free {
			if row[col] != ones(len(free))[i][k] {
				t.Fatal("by", p, m, "the row", row, "has not 1 at", free[i], "alone")
			}
		}
		for _, a := range row {
			if a < 0 || a >= p {
				t.Fatal("by", p, m, "the row", row, "has numbers that are not valid")
			}
		}
	}
}

func TestP2RankAndKernelAreAllColumns(t *testing.T) {
	check := func(p int, m [][]int) {
		rank := impl.MatRank(p, m)
		kernel := impl.MatKernel(p, m)
		if rank < 0 || len(kernel) != len(m[0])-rank {
			t.Fatal("by", p, m, "rank", rank, "kernel", kernel)
		}
		begin := beginnings(t, p, impl.MatForm(p, m))
		if rank != len(begin) {
			t.Fatal("by", p, m, "rank", rank, "but the form begins at", begin)
		}
		checkKernel(t, p, m, begin)
		if len(kernel) > 0 && impl.MatRank(p, kernel) != len(kernel) {
			t.Fatal("by", p, m, "one is made of the others", kernel)
		}
	}
	eachSmall(check)
	eachMixed(check)
}

func TestP2KernelIsAll(t *testing.T) {
	eachSmall(func(p int, m [][]int) {
		count := 0
		for _, row := range allRows(p, len(m[0])) {
			if isZero(timesRow(p, m, row)) {
				count++
			}
		}
		made := 1
		for range impl.MatKernel(p, m) {
			made *= p
		}
		if made != count {
			t.Fatal("by", p, m, "takes", count, "rows to 0, but", made, "are made")
		}
	})
}

func TestKernelExamples(t *testing.T) {
	if got := impl.MatKernel(5, [][]int{{1, 2, 3}}); !equal(got, [][]int{{3, 1, 0}, {2, 0, 1}}) {
		t.Fatal(got)
	}
	if got := impl.MatKernel(7, [][]int{{0, 2, 4, 0}, {0, 0, 0, 3}}); !equal(got, [][]int{{1, 0, 0, 0}, {0, 5, 1, 0}}) {
		t.Fatal(got)
	}
	if got := impl.MatKernel(2, zeros(3, 4)); !equal(got, ones(4)) {
		t.Fatal("of 0 alone", got)
	}
	if got := impl.MatKernel(2, ones(8)); len(got) != 0 {
		t.Fatal("of all rows", got)
	}
	if got := impl.MatKernel(13, [][]int{{0}}); !equal(got, [][]int{{1}}) {
		t.Fatal("of one 0", got)
	}
}

func TestRankExamples(t *testing.T) {
	if impl.MatRank(5, [][]int{{1, 2}, {3, 4}}) != 2 || impl.MatRank(2, [][]int{{1, 0}, {1, 0}}) != 1 || impl.MatRank(2, [][]int{{0}}) != 0 || impl.MatRank(13, zeros(8, 8)) != 0 || impl.MatRank(13, ones(8)) != 8 {
		t.Fatal("rank")
	}
	if impl.MatRank(2, [][]int{{1, 1, 0}, {0, 1, 1}, {1, 0, 1}}) != 2 || impl.MatRank(3, [][]int{{1, 1, 0}, {0, 1, 1}, {1, 0, 1}}) != 3 {
		t.Fatal("the prime 2 is not like the others")
	}
}

func TestP3SolutionsSolve(t *testing.T) {
	c := &chance{state: 3}
	check := func(p int, m [][]int) {
		for k := range 3 {
			want := c.row(p, len(m))
			if k == 1 {
				want = timesRow(p, m, c.row(p, len(m[0])))
			} else if k == 2 {
				want = make([]int, len(m))
			}
			checkSolution(t, p, m, want, k > 0)
		}
	}
	eachSmall(check)
	eachMixed(check)
}

// checkSolution holds MatSolve against what its sentence says; sure tells that there is a solution.
func checkSolution(t *testing.T, p int, m [][]int, want []int, sure bool) {
	t.Helper()
	got, ok := impl.MatSolve(p, m, want)
	if !ok && (sure || got != nil) {
		t.Fatal("by", p, m, "for", want, "is", got, ok)
	}
	if ok {
		if len(got) != len(m[0]) || !slices.Equal(timesRow(p, m, got), want) {
			t.Fatal("by", p, m, "for", want, "is", got)
		}
		begin := beginnings(t, p, impl.MatForm(p, m))
		for col, a := range got {
			if a < 0 || a >= p || a != 0 && !slices.Contains(begin, col) {
				t.Fatal("by", p, m, "for", want, "is", got, "which is not the one that is told")
			}
		}
	}
	if len(m[0]) < impl.MaxRows {
		wider := cloned(m)
		for i := range wider {
			wider[i] = append(wider[i], want[i])
		}
		if ok != (impl.MatRank(p, wider) <= impl.MatRank(p, m)) {
			t.Fatal("by", p, m, "for", want, "the rank tells otherwise than", ok)
		}
	}
}

func TestP3NoSolutionIsMissed(t *testing.T) {
	eachSmall(func(p int, m [][]int) {
		if len(m)*len(m[0]) > 6 {
			return
		}
		made := map[string]bool{}
		name := func(row []int) string {
			text := ""
			for _, a := range row {
				text += string(rune('a' + a))
			}
			return text
		}
		for _, row := range allRows(p, len(m[0])) {
			made[name(timesRow(p, m, row))] = true
		}
		for _, want := range allRows(p, len(m)) {
			checkSolution(t, p, m, want, made[name(want)])
			if _, ok := impl.MatSolve(p, m, want); ok != made[name(want)] {
				t.Fatal("by", p, m, "for", want, "is", ok)
			}
		}
	})
}

func TestSolveExamples(t *testing.T) {
	list := []struct {
		p    int
		m    [][]int
		want []int
		row  []int
		ok   bool
	}{
		{5, [][]int{{1, 2}, {3, 4}}, []int{0, 2}, []int{2, 4}, true},
		{5, [][]int{{1, 1}, {1, 1}}, []int{0, 1}, nil, false},
		{5, [][]int{{1, 1}, {1, 1}}, []int{3, 3}, []int{3, 0}, true},
		{2, [][]int{{1, 1}}, []int{1}, []int{1, 0}, true},
		{2, [][]int{{0, 0}, {0, 0}}, []int{0, 0}, []int{0, 0}, true},
		{2, [][]int{{0, 0}, {0, 0}}, []int{0, 1}, nil, false},
		{7, [][]int{{0, 3, 1}}, []int{2}, []int{0, 3, 0}, true},
		{7, [][]int{{3}, {6}, {2}}, []int{1, 2, 3}, []int{5}, true},
		{7, [][]int{{3}, {6}, {2}}, []int{1, 2, 4}, nil, false},
		{13, ones(8), []int{1, 2, 3, 4, 5, 6, 7, 12}, []int{1, 2, 3, 4, 5, 6, 7, 12}, true},
	}
	for _, x := range list {
		if got, ok := impl.MatSolve(x.p, x.m, x.want); ok != x.ok || !slices.Equal(got, x.row) {
			t.Fatal("by", x.p, x.m, "for", x.want, "is", got, ok)
		}
	}
}

func TestSolveWantsAsManyValidNumbersAsRows(t *testing.T) {
	m := [][]int{{1, 0}, {0, 1}, {0, 0}}
	for _, want := range [][]int{nil, {}, {0}, {0, 0}, {0, 0, 0, 0}, make([]int, 9)} {
		if got, ok := impl.MatSolve(3, m, want); got != nil || ok {
			t.Fatal("for", want, "is", got, ok)
		}
	}
	for _, a := range noNumbers(3) {
		for place := range 3 {
			want := make([]int, 3)
			want[place] = a
			if got, ok := impl.MatSolve(3, m, want); got != nil || ok {
				t.Fatal("for", want, "is", got, ok)
			}
		}
	}
}

// byAllWays is the determinant as the sum over all ways to choose a number in each row.
func byAllWays(p int, m [][]int) int {
	var rest func(row int, columns []int) int
	rest = func(row int, columns []int) int {
		if row == len(m) {
			return 1
		}
		sum := 0
		for col := range m {
			if m[row][col] == 0 || slices.Contains(columns, col) {
				continue
			}
			pairs := 0
			for _, before := range columns {
				if before > col {
					pairs++
				}
			}
			times := m[row][col] * rest(row+1, append(slices.Clone(columns), col))
			if pairs%2 == 1 {
				times = -times
			}
			sum += times
		}
		return (sum%p + p) % p
	}
	return rest(0, nil)
}

func TestP4DeterminantsMultiply(t *testing.T) {
	c := &chance{state: 4}
	for _, p := range primes {
		for n := 1; n <= 8; n++ {
			for range 6 {
				a, det := c.invertible(p, n)
				b := c.matrix(p, n, n)
				if got := impl.MatDet(p, a); got != det {
					t.Fatal("by", p, a, "is", got, "not", det)
				}
				if got := impl.MatDet(p, impl.MatTimes(p, a, b)); got != det*impl.MatDet(p, b)%p {
					t.Fatal("of the product by", p, a, b, "is", got)
				}
				form, _ := c.form(p, n, n, c.below(n+1))
				checkDet(t, p, product(p, a, form))
				checkDet(t, p, b)
			}
		}
	}
	eachSmall(func(p int, m [][]int) {
		if len(m) == len(m[0]) {
			checkDet(t, p, m)
		}
	})
}

func checkDet(t *testing.T, p int, m [][]int) {
	t.Helper()
	det := impl.MatDet(p, m)
	if det < 0 || det >= p || (det == 0) != (impl.MatRank(p, m) < len(m)) {
		t.Fatal("by", p, m, "is", det, "with rank", impl.MatRank(p, m))
	}
	if got := impl.MatDet(p, turned(m)); got != det {
		t.Fatal("by", p, m, "is", det, "and turned", got)
	}
	if len(m) <= 6 {
		if want := byAllWays(p, m); det != want {
			t.Fatal("by", p, m, "is", det, "and by all ways", want)
		}
	}
}

func TestDetExamples(t *testing.T) {
	list := []struct {
		p   int
		m   [][]int
		det int
	}{
		{5, [][]int{{1, 2}, {3, 4}}, 3},
		{2, [][]int{{0, 1}, {1, 0}}, 1},
		{3, [][]int{{0, 1}, {1, 0}}, 2},
		{7, [][]int{{0, 0, 2}, {0, 3, 0}, {5, 0, 0}}, 5},
		{13, [][]int{{12}}, 12},
		{13, [][]int{{0}}, 0},
		{2, zeros(8, 8), 0},
		{2, ones(8), 1},
		{11, ones(8), 1},
		{3, [][]int{{1, 2}, {2, 1}}, 0},
	}
	for _, x := range list {
		if got := impl.MatDet(x.p, x.m); got != x.det {
			t.Fatal("by", x.p, x.m, "is", got, "not", x.det)
		}
	}
}

func TestDetOfMatricesThatAreNotSquare(t *testing.T) {
	for rows := 1; rows <= 8; rows++ {
		for cols := 1; cols <= 8; cols++ {
			if got := impl.MatDet(2, zeros(rows, cols)); rows != cols && got != -1 || rows == cols && got != 0 {
				t.Fatal(rows, "rows and", cols, "columns have", got)
			}
		}
	}
}

func TestP60MatricesCanLoseRows(t *testing.T) {
	check := func(p int, m [][]int) {
		if !impl.MatValid(p, m) {
			t.Fatal("by", p, "not valid", m)
		}
		if len(m) >= 2 && !impl.MatValid(p, m[:len(m)-1]) {
			t.Fatal("by", p, "not valid without its last row", m)
		}
		if impl.MatValid(p, m[:0]) {
			t.Fatal("valid without rows", p)
		}
	}
	eachSmall(check)
	eachMixed(check)
	for _, p := range primes {
		m := [][]int{{p - 1, 0}, {1, p - 1}}
		if !impl.MatValid(p, m) || !impl.MatValid(p, ones(8)) {
			t.Fatal("by", p, "not valid", m)
		}
	}
}

func TestP61TurnedProductsAreProductsTurned(t *testing.T) {
	c := &chance{state: 5}
	for _, p := range primes {
		for range 200 {
			size := []int{1 + c.below(8), 1 + c.below(8), 1 + c.below(8), 1 + c.below(8)}
			m1, m2, m3 := c.matrix(p, size[0], size[1]), c.matrix(p, size[1], size[2]), c.matrix(p, size[2], size[3])
			times := impl.MatTimes(p, m1, m2)
			if !equal(times, product(p, m1, m2)) {
				t.Fatal("by", p, m1, m2, "is", times)
			}
			if !equal(impl.MatTurn(p, times), impl.MatTimes(p, impl.MatTurn(p, m2), impl.MatTurn(p, m1))) {
				t.Fatal("turned by", p, m1, m2)
			}
			if !equal(impl.MatTimes(p, times, m3), impl.MatTimes(p, m1, impl.MatTimes(p, m2, m3))) {
				t.Fatal("taken together by", p, m1, m2, m3)
			}
		}
	}
}

func TestTimesExamples(t *testing.T) {
	if got := impl.MatTimes(5, [][]int{{1, 2}, {3, 4}}, [][]int{{1, 2}, {3, 4}}); !equal(got, [][]int{{2, 0}, {0, 2}}) {
		t.Fatal(got)
	}
	if got := impl.MatTimes(7, [][]int{{1, 2, 3}}, [][]int{{4}, {5}, {6}}); !equal(got, [][]int{{4}}) {
		t.Fatal(got)
	}
	if got := impl.MatTimes(7, [][]int{{4}, {5}, {6}}, [][]int{{1, 2, 3}}); !equal(got, [][]int{{4, 1, 5}, {5, 3, 1}, {6, 5, 4}}) {
		t.Fatal(got)
	}
	if got := impl.MatTimes(2, [][]int{{1, 1}}, [][]int{{1}, {1}}); !equal(got, [][]int{{0}}) {
		t.Fatal(got)
	}
	full := slices.Repeat([][]int{slices.Repeat([]int{12}, 8)}, 8)
	if got := impl.MatTimes(13, full, full); !equal(got, slices.Repeat([][]int{slices.Repeat([]int{8}, 8)}, 8)) {
		t.Fatal(got)
	}
}

func TestTimesOfSizesThatDoNotFit(t *testing.T) {
	for rows := 1; rows <= 8; rows++ {
		for cols := 1; cols <= 8; cols++ {
			got := impl.MatTimes(3, zeros(2, cols), zeros(rows, 2))
			if cols != rows && got != nil || cols == rows && !equal(got, zeros(2, 2)) {
				t.Fatal(cols, "columns and", rows, "rows have", got)
			}
		}
	}
}

func TestP62TurnedTwiceItIsAsBefore(t *testing.T) {
	check := func(p int, m [][]int) {
		once := impl.MatTurn(p, m)
		if !equal(once, turned(m)) || !equal(impl.MatTurn(p, once), m) {
			t.Fatal("by", p, m, "is", once)
		}
		if impl.MatRank(p, once) != impl.MatRank(p, m) {
			t.Fatal("by", p, m, "has another rank turned")
		}
	}
	eachSmall(check)
	eachMixed(check)
}

func TestP63ProductsHaveNoMoreRank(t *testing.T) {
	c := &chance{state: 6}
	eachMixed(func(p int, m [][]int) {
		other := c.matrix(p, len(m[0]), 1+c.below(8))
		if c.below(2) == 0 {
			other, _ = c.form(p, len(m[0]), 1+c.below(8), 1)
		}
		one, two := impl.MatRank(p, m), impl.MatRank(p, other)
		both := impl.MatRank(p, impl.MatTimes(p, m, other))
		if both < 0 || both > one || both > two {
			t.Fatal("by", p, m, other, "ranks", one, two, both)
		}
		if one > len(m) || one > len(m[0]) {
			t.Fatal("by", p, m, "rank", one)
		}
	})
	eachSmall(func(p int, m [][]int) {
		if rank := impl.MatRank(p, m); rank < 0 || rank > len(m) || rank > len(m[0]) {
			t.Fatal("by", p, m, "rank", rank)
		}
	})
}

func TestMatricesThatAreNotValid(t *testing.T) {
	for _, p := range primes {
		for _, bad := range badMatrices(p) {
			mustBeRefused(t, p, bad)
		}
	}
	for _, p := range noPrimes {
		for _, m := range [][][]int{nil, {{0}}, {{1}}, {{0, 0}, {0, 0}}, ones(2), ones(8), {{p - 1}}, {{p}}} {
			mustBeRefused(t, p, m)
		}
	}
}

// mustBeRefused asks each function for the one result that it has for a matrix that is not valid.
func mustBeRefused(t *testing.T, p int, bad [][]int) {
	t.Helper()
	defer mustPanicNot(t, "a matrix that is not valid")
	if impl.MatValid(p, bad) {
		t.Fatal("MatValid", p, bad)
	}
	for _, good := range [][][]int{ones(1), ones(2), ones(8), zeros(1, 2), zeros(2, 1), bad} {
		if impl.MatTimes(p, bad, good) != nil || impl.MatTimes(p, good, bad) != nil {
			t.Fatal("MatTimes", p, bad, good)
		}
	}
	if impl.MatTurn(p, bad) != nil {
		t.Fatal("MatTurn", p, bad)
	}
	if impl.MatForm(p, bad) != nil {
		t.Fatal("MatForm", p, bad)
	}
	if impl.MatRank(p, bad) != -1 {
		t.Fatal("MatRank", p, bad)
	}
	if impl.MatKernel(p, bad) != nil {
		t.Fatal("MatKernel", p, bad)
	}
	if row, ok := impl.MatSolve(p, bad, make([]int, len(bad))); row != nil || ok {
		t.Fatal("MatSolve", p, bad)
	}
	if row, ok := impl.MatSolve(p, bad, nil); row != nil || ok {
		t.Fatal("MatSolve without numbers", p, bad)
	}
	if impl.MatDet(p, bad) != -1 {
		t.Fatal("MatDet", p, bad)
	}
}
