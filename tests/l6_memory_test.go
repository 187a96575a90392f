package tests

import (
	"slices"
	"testing"

	"loop.example/rationalstreams/impl"
)

// waCall is a call of a function with two automata and a word, and the automata and rows that it returns.
type waCall struct {
	name string
	do   func(a, b impl.Wa, word []int) ([]impl.Wa, [][]int)
}

func waCalls() []waCall {
	return []waCall{
		{"WaValid", func(a, b impl.Wa, word []int) ([]impl.Wa, [][]int) { impl.WaValid(a); return nil, nil }},
		{"WordOk", func(a, b impl.Wa, word []int) ([]impl.Wa, [][]int) { impl.WordOk(word); return nil, nil }},
		{"WeightOf", func(a, b impl.Wa, word []int) ([]impl.Wa, [][]int) { impl.WeightOf(a, word); return nil, nil }},
		{"WaAdd", func(a, b impl.Wa, word []int) ([]impl.Wa, [][]int) { return onlyWa(impl.WaAdd(a, b)) }},
		{"WaTimes", func(a, b impl.Wa, word []int) ([]impl.Wa, [][]int) { return onlyWa(impl.WaTimes(a, b)) }},
		{"WaBack", func(a, b impl.Wa, word []int) ([]impl.Wa, [][]int) { return onlyWa(impl.WaBack(a), true) }},
		{"WaReached", func(a, b impl.Wa, word []int) ([]impl.Wa, [][]int) { return onlyWa(impl.WaReached(a), true) }},
		{"WaLeast", func(a, b impl.Wa, word []int) ([]impl.Wa, [][]int) { return onlyWa(impl.WaLeast(a), true) }},
		{"WaDiffer", func(a, b impl.Wa, word []int) ([]impl.Wa, [][]int) {
			first, _ := impl.WaDiffer(a, b)
			return nil, [][]int{first}
		}},
		{"WaRank", func(a, b impl.Wa, word []int) ([]impl.Wa, [][]int) { impl.WaRank(a); return nil, nil }},
		{"WaRec", func(a, b impl.Wa, word []int) ([]impl.Wa, [][]int) { return nil, rowsOf(impl.WaRec(a)) }},
	}
}

func onlyWa(w impl.Wa, _ bool) ([]impl.Wa, [][]int) {
	return []impl.Wa{w}, nil
}

// roomyWa has room behind all its rows, and behind the rows of its matrices.
func roomyWa(w impl.Wa) impl.Wa {
	roomyRows := func(m [][]int) [][]int {
		rows := make([][]int, 0, len(m)+10)
		for _, row := range m {
			rows = append(rows, roomy(row))
		}
		return rows
	}
	return impl.Wa{Prime: w.Prime, Start: roomy(w.Start), A: roomyRows(w.A), B: roomyRows(w.B), End: roomy(w.End)}
}

// oneRowWa has one row as Start, as End, and as all rows of both matrices, which are the same one.
func oneRowWa(p int, before []int) impl.Wa {
	row := roomy(before)
	m := append(make([][]int, 0, len(row)+10), slices.Repeat([][]int{row}, len(row))...)
	return impl.Wa{Prime: p, Start: row, A: m, B: m, End: row}
}

func rowsOfWa(w impl.Wa) [][]int {
	return slices.Concat([][]int{w.Start, w.End}, w.A, w.B)
}

func mustBeUntouchedWa(t *testing.T, name string, w, before impl.Wa) {
	t.Helper()
	if !sameWa(w, before) {
		t.Fatal(name, "writes to its argument", before, "or shares memory with it:", w)
	}
	for _, row := range rowsOfWa(w) {
		mustBeUntouched(t, name, w.Prime, row, row)
	}
	for _, m := range [][][]int{w.A, w.B} {
		for _, row := range m[len(m):cap(m)] {
			if row != nil {
				t.Fatal(name, "writes behind the rows of its argument", before)
			}
		}
	}
}

// mustBeApartWas spoils all rows of some automata and all that an append could reach, and fails if this changes others.
func mustBeApartWas(t *testing.T, name string, was []impl.Wa, rows [][]int) {
	t.Helper()
	all := slices.Clone(rows)
	for _, w := range was {
		all = append(all, rowsOfWa(w)...)
	}
	mustBeApart(t, name, all)
	for _, w := range was {
		spoilRows(w.A)
		if slices.ContainsFunc(w.B, func(row []int) bool { return row == nil }) {
			t.Fatal(name, "has one matrix twice")
		}
		spoilRows(w.B)
	}
}

// spoilRows puts nothing in place of all rows, as far as an append could reach; so no row of it may be nothing before.
func spoilRows(m [][]int) {
	clear(m[:cap(m)])
}

// mustBeOwnWa spoils the result of a call, looks at the arguments, and calls it again.
func mustBeOwnWa(t *testing.T, call waCall, a, b impl.Wa, word []int) {
	t.Helper()
	beforeA, beforeB, beforeWord := clonedWa(a), clonedWa(b), slices.Clone(word)
	mustBeSame := func() {
		t.Helper()
		mustBeUntouchedWa(t, call.name, a, beforeA)
		mustBeUntouchedWa(t, call.name, b, beforeB)
		mustBeUntouched(t, call.name, a.Prime, word, beforeWord)
	}
	was, rows := call.do(a, b, word)
	mustBeSame()
	var kept []impl.Wa
	for _, w := range was {
		kept = append(kept, clonedWa(w))
	}
	keptRows := cloned(rows)
	mustBeApartWas(t, call.name, was, rows)
	mustBeSame()
	again, rowsAgain := call.do(a, b, word)
	if !slices.EqualFunc(again, kept, sameWa) || !equal(rowsAgain, keptRows) {
		t.Fatal(call.name, "of", a, b, word, "is", again, rowsAgain, "the second time, not", kept, keptRows)
	}
}

func TestAutomataAreNeitherWrittenToNorShared(t *testing.T) {
	c := &chance{state: 84}
	calls := waCalls()
	check := func(beforeA, beforeB impl.Wa) {
		t.Helper()
		word := roomy(c.row(2, c.below(maxWord+1)))
		for _, call := range calls {
			a, b := roomyWa(beforeA), roomyWa(beforeB)
			mustBeOwnWa(t, call, a, b, word)
			mustBeOwnWa(t, call, a, a, word)
		}
	}
	for _, p := range primes {
		for one := range maxStates + 1 {
			for _, a := range c.wasBy(p, one) {
				list := c.wasBy(p, c.below(maxStates+1))
				check(a, list[c.below(len(list))])
			}
			for two := range maxStates + 1 {
				check(c.wa(p, one), c.wa(p, two))
			}
		}
	}
	for _, w := range smallWas(2, 1) {
		check(w, w)
	}
}

// TestRowsOfAutomataThatAreOneRow gives the same memory as all rows.
func TestRowsOfAutomataThatAreOneRow(t *testing.T) {
	c := &chance{state: 85}
	for _, p := range primes {
		for states := range maxStates + 1 {
			for range 5 {
				one := oneRowWa(p, c.row(p, states))
				two := clonedWa(one)
				word := c.row(2, c.below(maxWord+1))
				for _, call := range waCalls() {
					was, rows := call.do(one, one, word)
					wantWas, wantRows := call.do(two, two, word)
					if !slices.EqualFunc(was, wantWas, sameWa) || !equal(rows, wantRows) {
						t.Fatal(call.name, "of", two, "as one row is", was, rows)
					}
					mustBeOwnWa(t, call, one, one, word)
				}
			}
		}
	}
}

// TestWordsThatArePartsOfAutomata gives a row of an automaton as the word.
func TestWordsThatArePartsOfAutomata(t *testing.T) {
	c := &chance{state: 86}
	for states := range maxStates + 1 {
		for _, w := range c.wasBy(2, states) {
			for _, row := range rowsOfWa(w) {
				want := weightBy(w, slices.Clone(row))
				if got := impl.WeightOf(w, row); got != want {
					t.Fatal("the weight of", row, "by", w, "is", got, "not", want)
				}
			}
		}
	}
}
