package tests

import (
	"slices"
	"testing"

	"loop.example/rationalstreams/impl"
)

// These are the document's numbers; the tests do not take them from the program.
const (
	maxStates = 6
	maxWord   = 12
	letterA   = 0
	letterB   = 1
)

// matrixOf is the matrix of a letter.
func matrixOf(w impl.Wa, letter int) [][]int {
	return [][][]int{w.A, w.B}[letter]
}

// weightBy is the weight of a word, from End to Start.
func weightBy(w impl.Wa, word []int) int {
	column := slices.Clone(w.End)
	for _, letter := range slices.Backward(word) {
		column = timesRow(w.Prime, matrixOf(w, letter), column)
	}
	return timesRow(w.Prime, [][]int{w.Start}, column)[0]
}

// weightByWays is the sum, over all ways from state to state, of the products of the numbers on the way.
func weightByWays(w impl.Wa, word []int) int {
	var from func(state int, word []int) int
	from = func(state int, word []int) int {
		if len(word) == 0 {
			return w.End[state]
		}
		sum := 0
		for next, times := range matrixOf(w, word[0])[state] {
			if times != 0 {
				sum += times * from(next, word[1:])
			}
		}
		return sum % w.Prime
	}
	sum := 0
	for state, times := range w.Start {
		sum += times * from(state, word)
	}
	return sum % w.Prime
}

// wordsTo has all words with at most so many letters, fewer letters first, and then in the order of their letters.
func wordsTo(letters int) [][]int {
	var words [][]int
	for length := range letters + 1 {
		words = append(words, allRows(2, length)...)
	}
	return words
}

// someWords has all words with at most 4 letters, and longer ones of all lengths.
func (c *chance) someWords() [][]int {
	words := wordsTo(4)
	for length := 5; length <= maxWord; length++ {
		words = append(words, c.row(2, length), slices.Repeat([]int{c.below(2)}, length))
	}
	return words
}

func backwards(word []int) []int {
	back := slices.Clone(word)
	slices.Reverse(back)
	return back
}

// rowBy is a row times a matrix.
func rowBy(p int, row []int, m [][]int) []int {
	sums := make([]int, len(row))
	if len(m) > 0 {
		sums = make([]int, len(m[0]))
	}
	for i, times := range row {
		for j, a := range m[i] {
			sums[j] = (sums[j] + times*a) % p
		}
	}
	return sums
}

func sameWa(a, b impl.Wa) bool {
	return a.Prime == b.Prime && slices.Equal(a.Start, b.Start) && slices.Equal(a.End, b.End) && equal(a.A, b.A) && equal(a.B, b.B)
}

func isNoWa(w impl.Wa) bool {
	return sameWa(w, impl.Wa{})
}

func clonedWa(w impl.Wa) impl.Wa {
	return impl.Wa{Prime: w.Prime, Start: slices.Clone(w.Start), A: cloned(w.A), B: cloned(w.B), End: slices.Clone(w.End)}
}

// isWa tells by the document's sentence whether a result is an automaton.
func isWa(w impl.Wa) bool {
	states := len(w.Start)
	if !slices.Contains(primes, w.Prime) || states > maxStates || len(w.End) != states || len(w.A) != states || len(w.B) != states {
		return false
	}
	for _, row := range slices.Concat([][]int{w.Start, w.End}, w.A, w.B) {
		if len(row) != states || !allBelow(w.Prime, row) {
			return false
		}
	}
	return true
}

// backBy is an automaton backwards.
func backBy(w impl.Wa) impl.Wa {
	back := impl.Wa{Prime: w.Prime, Start: w.End, End: w.Start}
	if len(w.Start) > 0 {
		back.A, back.B = turned(w.A), turned(w.B)
	}
	return back
}

// chosenRows goes through the rows of an automaton and tells by ranks which of them are made of those chosen before.
func chosenRows(w impl.Wa) [][]int {
	var chosen [][]int
	for list := [][]int{w.Start}; len(list) > 0; list = list[1:] {
		row := list[0]
		if rankOf(w.Prime, append(cloned(chosen), row)) == len(chosen) {
			continue
		}
		chosen = append(chosen, row)
		list = append(list, rowBy(w.Prime, row, w.A), rowBy(w.Prime, row, w.B))
	}
	return chosen
}

// mustBeReached holds a result of WaReached against the chosen rows: as no row of these is made of the others, it is the only one that is right.
func mustBeReached(t *testing.T, w, got impl.Wa, chosen [][]int) {
	t.Helper()
	if !isWa(got) || got.Prime != w.Prime || len(got.Start) != len(chosen) {
		t.Fatal("what is reached of", w, "is", got, "but the chosen rows are", chosen)
	}
	for i, row := range chosen {
		a, b := rowBy(w.Prime, got.A[i], chosen), rowBy(w.Prime, got.B[i], chosen)
		if !slices.Equal(a, rowBy(w.Prime, row, w.A)) || !slices.Equal(b, rowBy(w.Prime, row, w.B)) {
			t.Fatal("what is reached of", w, "is", got, "but the chosen rows are", chosen)
		}
		if got.End[i] != timesRow(w.Prime, [][]int{row}, w.End)[0] || got.Start[i] != max(1-i, 0) {
			t.Fatal("what is reached of", w, "is", got, "but the chosen rows are", chosen)
		}
	}
}

// wordTable has the weights of all words with at most so many letters behind all such words.
func wordTable(w impl.Wa, letters int) [][]int {
	words := wordsTo(letters)
	var columns [][]int
	for _, word := range words {
		column := slices.Clone(w.End)
		for _, letter := range slices.Backward(word) {
			column = timesRow(w.Prime, matrixOf(w, letter), column)
		}
		columns = append(columns, column)
	}
	table := make([][]int, len(words))
	for i, word := range words {
		row := w.Start
		for _, letter := range word {
			row = rowBy(w.Prime, row, matrixOf(w, letter))
		}
		table[i] = timesRow(w.Prime, columns, row)
	}
	return table
}

// firstApart tries all words with fewer letters than both automata have states together.
func firstApart(a, b impl.Wa) ([]int, bool) {
	p := a.Prime
	type reached struct{ word, one, two []int }
	list := []reached{{nil, a.Start, b.Start}}
	for i := 0; i < len(list) && len(list[i].word) < len(a.Start)+len(b.Start); i++ {
		x := list[i]
		if timesRow(p, [][]int{a.End}, x.one)[0] != timesRow(p, [][]int{b.End}, x.two)[0] {
			return x.word, true
		}
		for letter := range 2 {
			list = append(list, reached{append(slices.Clone(x.word), letter), rowBy(p, x.one, matrixOf(a, letter)), rowBy(p, x.two, matrixOf(b, letter))})
		}
	}
	return nil, false
}

// wa makes a mixed automaton with so many states.
func (c *chance) wa(p, states int) impl.Wa {
	return impl.Wa{Prime: p, Start: c.row(p, states), A: c.matrix(p, states, states), B: c.matrix(p, states, states), End: c.row(p, states)}
}

// sparse makes a matrix in which most numbers are 0.
func (c *chance) sparse(p, n int) [][]int {
	m := zeros(n, n)
	for range n {
		m[c.below(n)][c.below(n)] = 1 + c.below(p-1)
	}
	return m
}

// stateOf is the row or the column of one state alone.
func stateOf(states, state int) []int {
	row := make([]int, states)
	row[state] = 1
	return row
}

// pathOf is the automaton that weighs one word alone other than 0: each state leads to the next one by one letter of it.
func pathOf(p int, word []int, weight int) impl.Wa {
	states := len(word) + 1
	w := impl.Wa{Prime: p, Start: stateOf(states, 0), A: zeros(states, states), B: zeros(states, states), End: make([]int, states)}
	for i, letter := range word {
		matrixOf(w, letter)[i][i+1] = 1
	}
	w.End[states-1] = weight
	return w
}

// streamOf is the automaton that weighs the words of one letter alone as a stream, and all other words 0.
func streamOf(r impl.Rec, letter int) impl.Wa {
	states := len(r.First)
	w := impl.Wa{Prime: r.Prime, Start: make([]int, states), A: zeros(states, states), B: zeros(states, states), End: slices.Clone(r.First)}
	if states == 0 {
		return w
	}
	w.Start[0] = 1
	m := matrixOf(w, letter)
	for i := range states - 1 {
		m[i][i+1] = 1
	}
	m[states-1] = backwards(r.Times)
	return w
}

// sumBy is an automaton with the states of both, and 0 between them.
func sumBy(a, b impl.Wa) impl.Wa {
	split := len(a.Start)
	all := split + len(b.Start)
	m := impl.Wa{Prime: a.Prime, Start: append(slices.Clone(a.Start), b.Start...), A: zeros(all, all), B: zeros(all, all), End: append(slices.Clone(a.End), b.End...)}
	for letter := range 2 {
		for i, row := range matrixOf(a, letter) {
			copy(matrixOf(m, letter)[i], row)
		}
		for i, row := range matrixOf(b, letter) {
			copy(matrixOf(m, letter)[split+i][split:], row)
		}
	}
	return m
}

// productBy is an automaton with the pairs of states of both.
func productBy(a, b impl.Wa) impl.Wa {
	p, each := a.Prime, len(b.Start)
	all := len(a.Start) * each
	m := impl.Wa{Prime: p, Start: make([]int, all), A: zeros(all, all), B: zeros(all, all), End: make([]int, all)}
	for i := range all {
		m.Start[i] = a.Start[i/each] * b.Start[i%each] % p
		m.End[i] = a.End[i/each] * b.End[i%each] % p
		for letter := range 2 {
			for j := range all {
				matrixOf(m, letter)[i][j] = matrixOf(a, letter)[i/each][j/each] * matrixOf(b, letter)[i%each][j%each] % p
			}
		}
	}
	return m
}

// stirred has the same weights: again and again a multiple of one state is put to another one, and taken away elsewhere.
func (c *chance) stirred(before impl.Wa) impl.Wa {
	w := clonedWa(before)
	p, states := w.Prime, len(w.Start)
	if states < 2 {
		return w
	}
	for range 3 * states {
		from := c.below(states)
		to := (from + 1 + c.below(states-1)) % states
		times := c.below(p)
		less := p - times
		for _, m := range [][][]int{w.A, w.B} {
			for j := range states {
				m[from][j] = (m[from][j] + less*m[to][j]) % p
			}
			for i := range states {
				m[i][to] = (m[i][to] + times*m[i][from]) % p
			}
		}
		w.Start[to] = (w.Start[to] + times*w.Start[from]) % p
		w.End[from] = (w.End[from] + less*w.End[to]) % p
	}
	return w
}

// enlarged has the same weights with more states: nothing leads to them, or they lead to nothing that is weighed.
func (c *chance) enlarged(w impl.Wa, more int) impl.Wa {
	before := len(w.Start)
	m := sumBy(w, c.wa(w.Prime, more))
	reached := c.below(2) == 0
	for i := before; i < before+more; i++ {
		if reached {
			m.End[i] = 0
		} else {
			m.Start[i] = 0
		}
		for j := range before {
			for _, matrix := range [][][]int{m.A, m.B} {
				if reached {
					matrix[j][i] = c.below(w.Prime)
				} else {
					matrix[i][j] = c.below(w.Prime)
				}
			}
		}
	}
	return m
}

// wasBy has some automata with so many states: mixed ones, those of 0 alone somewhere, those that go on in one way, and those with the weights of smaller ones.
func (c *chance) wasBy(p, states int) []impl.Wa {
	list := []impl.Wa{c.wa(p, states), c.wa(p, states), c.wa(p, states)}
	if states == 0 {
		return list
	}
	for range 6 {
		list = append(list, c.wa(p, states))
	}
	some := list[3:]
	some[0].Start = make([]int, states)
	some[1].End = make([]int, states)
	some[2].A = zeros(states, states)
	some[3].B = zeros(states, states)
	some[4].A, some[4].B = zeros(states, states), zeros(states, states)
	some[5].A, some[5].B = ones(states), ones(states)
	all := slices.Repeat([]int{p - 1}, states)
	list = append(list, impl.Wa{Prime: p, Start: all, A: slices.Repeat([][]int{all}, states), B: slices.Repeat([][]int{all}, states), End: all})
	for range 3 {
		list = append(list, impl.Wa{Prime: p, Start: stateOf(states, 0), A: c.sparse(p, states), B: c.sparse(p, states), End: stateOf(states, states-1)})
		list = append(list, impl.Wa{Prime: p, Start: c.row(p, states), A: c.sparse(p, states), B: c.sparse(p, states), End: c.row(p, states)})
	}
	for _, word := range [][]int{c.row(2, states-1), make([]int, states-1), slices.Repeat([]int{letterB}, states-1)} {
		path := pathOf(p, word, 1+c.below(p-1))
		list = append(list, path, c.stirred(path))
	}
	list = append(list, streamOf(c.rec(p, states), letterA), streamOf(c.rec(p, states), letterB))
	for fewer := range states {
		small := c.wa(p, fewer)
		more := c.below(states - fewer + 1)
		list = append(list, c.enlarged(small, states-fewer), c.stirred(c.enlarged(c.enlarged(small, more), states-fewer-more)))
	}
	half := c.wa(p, states/2)
	return append(list, c.stirred(c.enlarged(sumBy(half, half), states%2)))
}

// smallWas has every automaton with just so many states.
func smallWas(p, states int) []impl.Wa {
	var list []impl.Wa
	for _, row := range allRows(p, 2*states+2*states*states) {
		next := func(many int) []int {
			part := slices.Clone(row[:many])
			row = row[many:]
			return part
		}
		w := impl.Wa{Prime: p, Start: next(states), End: next(states)}
		for range states {
			w.A, w.B = append(w.A, next(states)), append(w.B, next(states))
		}
		list = append(list, w)
	}
	return list
}

// eachWa gives all small automata, and some of all primes and of all numbers of states.
func eachWa(do func(w impl.Wa)) {
	for _, small := range []struct{ p, states int }{{2, 0}, {2, 1}, {2, 2}, {3, 1}, {5, 1}, {7, 1}} {
		for _, w := range smallWas(small.p, small.states) {
			do(w)
		}
	}
	c := &chance{state: 61}
	for _, p := range primes {
		for states := range maxStates + 1 {
			for range 3 {
				for _, w := range c.wasBy(p, states) {
					do(w)
				}
			}
		}
	}
}

// eachTwoWas gives two automata for the same prime: all small ones, some of all numbers of states, some with the same weights, and some whose weights part only late.
func eachTwoWas(do func(a, b impl.Wa)) {
	for _, small := range []struct{ p, most int }{{2, 1}, {3, 1}} {
		var list []impl.Wa
		for states := range small.most + 1 {
			list = append(list, smallWas(small.p, states)...)
		}
		for _, a := range list {
			for _, b := range list {
				do(a, b)
			}
		}
	}
	c := &chance{state: 62}
	for _, p := range primes {
		for one := range maxStates + 1 {
			for two := range maxStates + 1 {
				list, others := c.wasBy(p, one), c.wasBy(p, two)
				for range 3 {
					do(list[c.below(len(list))], others[c.below(len(others))])
				}
			}
			for _, w := range c.wasBy(p, one) {
				same := c.stirred(c.enlarged(w, c.below(maxStates-one+1)))
				do(w, same)
				do(same, w)
			}
			for two := 1; two <= maxStates; two++ {
				do(c.lateApartWas(p, one, two, c.below(2)))
			}
		}
	}
}

// lateApartWas is two automata whose weights part only at the word of one letter, with one letter fewer than both have states together.
func (c *chance) lateApartWas(p, one, two, letter int) (impl.Wa, impl.Wa) {
	a, b := lastApart(p, one, two)
	return c.stirred(streamOf(a, letter)), c.stirred(streamOf(b, letter))
}

// badWas has automata that are not valid, for a prime.
func badWas(p int) []impl.Wa {
	var list []impl.Wa
	add := func(states int, change func(w *impl.Wa)) {
		w := impl.Wa{Prime: p, Start: make([]int, states), A: zeros(states, states), B: zeros(states, states), End: make([]int, states)}
		change(&w)
		list = append(list, w)
	}
	for states := range maxStates + 1 {
		add(states, func(w *impl.Wa) { w.Start = append(w.Start, 0) })
		add(states, func(w *impl.Wa) { w.End = append(w.End, 0) })
		add(states, func(w *impl.Wa) { w.Start, w.End = append(w.Start, 0), append(w.End, 0) })
		for _, row := range [][]int{nil, make([]int, states), make([]int, states+1)} {
			add(states, func(w *impl.Wa) { w.A = append(w.A, row) })
			add(states, func(w *impl.Wa) { w.B = append(w.B, row) })
			add(states, func(w *impl.Wa) { w.A, w.B = append(w.A, row), append(w.B, row) })
		}
	}
	for states := 1; states <= maxStates; states++ {
		add(states, func(w *impl.Wa) { w.Start = w.Start[1:] })
		add(states, func(w *impl.Wa) { w.End = w.End[1:] })
		add(states, func(w *impl.Wa) { w.Start, w.End = w.Start[1:], w.End[1:] })
		add(states, func(w *impl.Wa) { w.A = w.A[1:] })
		add(states, func(w *impl.Wa) { w.B = w.B[1:] })
		add(states, func(w *impl.Wa) { w.A, w.B = nil, nil })
		add(states, func(w *impl.Wa) { w.A = zeros(states+1, states) })
		add(states, func(w *impl.Wa) { w.A = zeros(states, states+1) })
		add(states, func(w *impl.Wa) { w.B = zeros(states, states-1) })
		for i := range states {
			add(states, func(w *impl.Wa) { w.A[i] = w.A[i][1:] })
			add(states, func(w *impl.Wa) { w.B[i] = w.B[i][1:] })
			add(states, func(w *impl.Wa) { w.A[i] = append(w.A[i], 0) })
			add(states, func(w *impl.Wa) { w.B[i] = append(w.B[i], 0) })
			add(states, func(w *impl.Wa) { w.B[i] = nil })
		}
	}
	for _, states := range []int{maxStates + 1, maxStates + 2, maxRows, maxRows + 1, 100} {
		add(states, func(w *impl.Wa) {})
		add(states, func(w *impl.Wa) { w.A, w.B = ones(states), ones(states) })
	}
	for _, a := range noNumbers(p) {
		for states := 1; states <= maxStates; states++ {
			for i := range states {
				add(states, func(w *impl.Wa) { w.Start[i] = a })
				add(states, func(w *impl.Wa) { w.End[i] = a })
				for j := range states {
					add(states, func(w *impl.Wa) { w.A[i][j] = a })
					add(states, func(w *impl.Wa) { w.B[i][j] = a })
				}
			}
		}
	}
	return list
}

// eachBadWa gives these for all primes, and automata for numbers that are no prime of the six.
func eachBadWa(do func(bad impl.Wa)) {
	for _, p := range primes {
		for _, bad := range badWas(p) {
			do(bad)
		}
	}
	for _, p := range noPrimes {
		for states := range maxStates + 2 {
			do(impl.Wa{Prime: p, Start: make([]int, states), A: zeros(states, states), B: zeros(states, states), End: make([]int, states)})
		}
		for _, a := range []int{1, p - 1, p} {
			do(impl.Wa{Prime: p, Start: []int{a}, A: [][]int{{a}}, B: [][]int{{a}}, End: []int{a}})
		}
	}
}

// badWords has words that are not right: with other letters, and with too many.
func badWords() [][]int {
	var list [][]int
	for _, letter := range noCounts(letterA, letterB) {
		for _, length := range []int{1, 2, maxWord} {
			for place := range length {
				word := make([]int, length)
				word[place] = letter
				list = append(list, word)
			}
		}
	}
	for _, length := range []int{maxWord + 1, maxWord + 2, 2 * maxWord, 1000} {
		list = append(list, make([]int, length), slices.Repeat([]int{letterB}, length))
	}
	return list
}
