package tests

import (
	"slices"
	"testing"

	"loop.example/rationalstreams/impl"
)

// fracCall is a call of a function with two fractions, and the rows that it returns.
type fracCall struct {
	name string
	do   func(a, b impl.Frac) [][]int
}

func fracCalls() []fracCall {
	return []fracCall{
		{"FracValid", func(a, b impl.Frac) [][]int { impl.FracValid(a); return nil }},
		{"FracTerms", func(a, b impl.Frac) [][]int {
			return [][]int{impl.FracTerms(a, 0), impl.FracTerms(a, len(a.Up)), impl.FracTerms(a, len(a.Low)), impl.FracTerms(a, maxTerms)}
		}},
		{"FracLeast", func(a, b impl.Frac) [][]int { return polysOf(impl.FracLeast(a), true) }},
		{"FracAdd", func(a, b impl.Frac) [][]int { return polysOf(impl.FracAdd(a, b)) }},
		{"FracTimes", func(a, b impl.Frac) [][]int { return polysOf(impl.FracTimes(a, b)) }},
		{"FracBack", func(a, b impl.Frac) [][]int { return polysOf(impl.FracBack(a)) }},
		{"FracSame", func(a, b impl.Frac) [][]int { impl.FracSame(a, b); return nil }},
		{"FracShift", func(a, b impl.Frac) [][]int { return polysOf(impl.FracShift(a)) }},
		{"RecOf", func(a, b impl.Frac) [][]int {
			r, _ := impl.RecOf(a)
			return rowsOf(r)
		}},
	}
}

func polysOf(f impl.Frac, _ bool) [][]int {
	return [][]int{f.Up, f.Low}
}

func roomyFrac(f impl.Frac) impl.Frac {
	return impl.Frac{Prime: f.Prime, Up: roomy(f.Up), Low: roomy(f.Low)}
}

func mustBeUntouchedFrac(t *testing.T, name string, f, before impl.Frac) {
	t.Helper()
	mustBeUntouched(t, name, f.Prime, f.Up, before.Up)
	mustBeUntouched(t, name, f.Prime, f.Low, before.Low)
}

// mustBeOwnFrac spoils the result of a call, looks at the arguments, and calls it again.
func mustBeOwnFrac(t *testing.T, call fracCall, a, b, beforeA, beforeB impl.Frac) {
	t.Helper()
	result := call.do(a, b)
	mustBeUntouchedFrac(t, call.name, a, beforeA)
	mustBeUntouchedFrac(t, call.name, b, beforeB)
	kept := cloned(result)
	mustBeApart(t, call.name, slices.Clone(result))
	mustBeUntouchedFrac(t, call.name, a, beforeA)
	mustBeUntouchedFrac(t, call.name, b, beforeB)
	if again := call.do(a, b); !equal(again, kept) {
		t.Fatal(call.name, "of", a, b, "is", again, "the second time, not", kept)
	}
}

func TestFractionsAreNeitherWrittenToNorShared(t *testing.T) {
	calls := fracCalls()
	eachTwoFracs(func(beforeA, beforeB impl.Frac) {
		for _, call := range calls {
			a, b := roomyFrac(beforeA), roomyFrac(beforeB)
			mustBeOwnFrac(t, call, a, b, beforeA, beforeB)
			mustBeOwnFrac(t, call, a, a, beforeA, beforeA)
		}
	})
	eachFrac(func(before impl.Frac) {
		for _, call := range calls {
			f := roomyFrac(before)
			mustBeOwnFrac(t, call, f, f, before, before)
		}
	})
}

// TestUpAndLowThatAreOneRow gives the same memory as both polynomials.
func TestUpAndLowThatAreOneRow(t *testing.T) {
	eachFrac(func(before impl.Frac) {
		row := roomy(before.Low)
		one := impl.Frac{Prime: before.Prime, Up: row, Low: row}
		two := impl.Frac{Prime: before.Prime, Up: slices.Clone(row), Low: slices.Clone(row)}
		for _, call := range fracCalls() {
			result := call.do(one, one)
			if !equal(result, call.do(two, two)) {
				t.Fatal(call.name, "of", two, "as one row is", result)
			}
			mustBeApart(t, call.name, result)
			mustBeUntouchedFrac(t, call.name, one, two)
		}
	})
}

func TestFracOfNeitherWritesNorShares(t *testing.T) {
	call := recCall{"FracOf", func(a, b impl.Rec) [][]int { return polysOf(impl.FracOf(a), true) }}
	eachRec(func(before impl.Rec) {
		r := roomyRec(before)
		mustBeOwn(t, call, r, r, before, before)
		row := roomy(before.First)
		one := impl.Rec{Prime: before.Prime, Times: row, First: row}
		mustBeOwn(t, call, one, one, impl.Rec{Times: before.First, First: before.First}, impl.Rec{Times: before.First, First: before.First})
	})
}
