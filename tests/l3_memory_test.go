package tests

import (
	"slices"
	"testing"

	"loop.example/rationalstreams/impl"
)

// recCall is a call of a function with two recurrences, and the rows that it returns.
type recCall struct {
	name string
	do   func(a, b impl.Rec) [][]int
}

func recCalls() []recCall {
	return []recCall{
		{"RecValid", func(a, b impl.Rec) [][]int { impl.RecValid(a); return nil }},
		{"RecTerms", func(a, b impl.Rec) [][]int {
			return [][]int{impl.RecTerms(a, len(a.First)), impl.RecTerms(a, maxTerms)}
		}},
		{"RecPoly", func(a, b impl.Rec) [][]int { return [][]int{impl.RecPoly(a)} }},
		{"RecFar", func(a, b impl.Rec) [][]int { impl.RecFar(a, 1000); return nil }},
		{"RecSame", func(a, b impl.Rec) [][]int { impl.RecSame(a, b); return nil }},
		{"RecNext", func(a, b impl.Rec) [][]int { return rowsOf(impl.RecNext(a)) }},
		{"RecTimes by 0", func(a, b impl.Rec) [][]int { return rowsOf(impl.RecTimes(a, 0)) }},
		{"RecTimes by 1", func(a, b impl.Rec) [][]int { return rowsOf(impl.RecTimes(a, 1)) }},
		{"RecTimes", func(a, b impl.Rec) [][]int { return rowsOf(impl.RecTimes(a, a.Prime-1)) }},
		{"RecAdd", func(a, b impl.Rec) [][]int {
			sum, _ := impl.RecAdd(a, b)
			return rowsOf(sum)
		}},
		{"RecCircle", func(a, b impl.Rec) [][]int { impl.RecCircle(a); return nil }},
		{"ReadRec", func(a, b impl.Rec) [][]int {
			r, _ := impl.ReadRec(impl.RecText(a))
			return rowsOf(r)
		}},
	}
}

func rowsOf(r impl.Rec) [][]int {
	return [][]int{r.Times, r.First}
}

func roomyRec(r impl.Rec) impl.Rec {
	return impl.Rec{Prime: r.Prime, Times: roomy(r.Times), First: roomy(r.First)}
}

func mustBeUntouchedRec(t *testing.T, name string, r, before impl.Rec) {
	t.Helper()
	mustBeUntouched(t, name, r.Prime, r.Times, before.Times)
	mustBeUntouched(t, name, r.Prime, r.First, before.First)
}

// mustBeOwn spoils the result of a call, looks at the arguments, and calls it again.
func mustBeOwn(t *testing.T, call recCall, a, b, beforeA, beforeB impl.Rec) {
	t.Helper()
	result := call.do(a, b)
	mustBeUntouchedRec(t, call.name, a, beforeA)
	mustBeUntouchedRec(t, call.name, b, beforeB)
	kept := cloned(result)
	mustBeApart(t, call.name, slices.Clone(result))
	mustBeUntouchedRec(t, call.name, a, beforeA)
	mustBeUntouchedRec(t, call.name, b, beforeB)
	if again := call.do(a, b); !equal(again, kept) {
		t.Fatal(call.name, "of", a, b, "is", again, "the second time, not", kept)
	}
}

func TestRecurrencesAreNeitherWrittenToNorShared(t *testing.T) {
	calls := recCalls()
	eachTwo(func(beforeA, beforeB impl.Rec) {
		for _, call := range calls {
			if call.name == "RecCircle" {
				continue
			}
			a, b := roomyRec(beforeA), roomyRec(beforeB)
			mustBeOwn(t, call, a, b, beforeA, beforeB)
			mustBeOwn(t, call, a, a, beforeA, beforeA)
		}
	})
	eachRec(func(before impl.Rec) {
		for _, call := range calls {
			r := roomyRec(before)
			mustBeOwn(t, call, r, r, before, before)
		}
	})
}

// TestTimesAndFirstThatAreOneRow gives the same memory as Times and First.
func TestTimesAndFirstThatAreOneRow(t *testing.T) {
	eachRec(func(before impl.Rec) {
		row := roomy(before.First)
		one := impl.Rec{Prime: before.Prime, Times: row, First: row}
		two := impl.Rec{Prime: before.Prime, Times: slices.Clone(row), First: slices.Clone(row)}
		for _, call := range recCalls() {
			result := call.do(one, one)
			if !equal(result, call.do(two, two)) {
				t.Fatal(call.name, "of", two, "as one row is", result)
			}
			mustBeApart(t, call.name, result)
			mustBeUntouchedRec(t, call.name, one, two)
		}
	})
}
