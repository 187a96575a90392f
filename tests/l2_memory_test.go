package tests

import (
	"slices"
	"testing"

	"loop.example/rationalstreams/impl"
)

// call is a call of a function with two rows, and the rows that it returns.
type call struct {
	name string
	do   func(p int, f, g []int) [][]int
}

func rowCalls() []call {
	return []call{
		{"PolyValid", func(p int, f, g []int) [][]int { impl.PolyValid(p, f); return nil }},
		{"SeriesValid", func(p int, f, g []int) [][]int { impl.SeriesValid(p, f); return nil }},
		{"PolyAt", func(p int, f, g []int) [][]int { impl.PolyAt(p, f, 1); return nil }},
		{"PolyAdd", func(p int, f, g []int) [][]int {
			sum, _ := impl.PolyAdd(p, f, g)
			return [][]int{sum}
		}},
		{"PolyTimes", func(p int, f, g []int) [][]int {
			product, _ := impl.PolyTimes(p, f, g)
			return [][]int{product}
		}},
		{"PolyDivide", func(p int, f, g []int) [][]int {
			quotient, rest, _ := impl.PolyDivide(p, f, g)
			return [][]int{quotient, rest}
		}},
		{"PolyCommon", func(p int, f, g []int) [][]int {
			divisor, one, two, _ := impl.PolyCommon(p, f, g)
			return [][]int{divisor, one, two}
		}},
		{"PowerRest", func(p int, f, g []int) [][]int {
			rest, _ := impl.PowerRest(p, g, len(f))
			return [][]int{rest}
		}},
		{"SeriesTimes", func(p int, f, g []int) [][]int { return [][]int{impl.SeriesTimes(p, f, g)} }},
		{"SeriesBack", func(p int, f, g []int) [][]int { return [][]int{impl.SeriesBack(p, f)} }},
	}
}

// roomy copies a row into memory with room behind it, which an append would write to.
func roomy(row []int) []int {
	return append(make([]int, 0, len(row)+30), row...)
}

func mustBeUntouched(t *testing.T, name string, p int, row, before []int) {
	t.Helper()
	if !slices.Equal(row, before) || !isZero(row[len(row):cap(row)]) {
		t.Fatal(name, "by", p, "writes to its argument", before, "or shares memory with it:", row)
	}
}

// TestRowsAreNeitherWrittenToNorShared spoils each result and then looks at the arguments and at the other results.
func TestRowsAreNeitherWrittenToNorShared(t *testing.T) {
	calls := rowCalls()
	eachPair(func(p int, before, beforeOther []int) {
		for _, call := range calls {
			f, g := roomy(before), roomy(beforeOther)
			result := call.do(p, f, g)
			mustBeUntouched(t, call.name, p, f, before)
			mustBeUntouched(t, call.name, p, g, beforeOther)
			kept := cloned(result)
			mustBeApart(t, call.name, slices.Clone(result))
			mustBeUntouched(t, call.name, p, f, before)
			mustBeUntouched(t, call.name, p, g, beforeOther)
			if again := call.do(p, f, g); !equal(again, kept) {
				t.Fatal(call.name, "by", p, f, g, "is", again, "the second time, not", kept)
			}
			same := call.do(p, f, f)
			kept = cloned(same)
			mustBeApart(t, call.name+" of one row twice", slices.Clone(same))
			mustBeUntouched(t, call.name, p, f, before)
			if apart := call.do(p, f, roomy(before)); !equal(apart, kept) {
				t.Fatal(call.name, "by", p, f, "twice is", kept, "but of two rows", apart)
			}
		}
	})
}

// TestBeginningsAreNeitherWrittenToNorShared does so for beginnings that are no polynomials, and for their parts.
func TestBeginningsAreNeitherWrittenToNorShared(t *testing.T) {
	eachBeginning(func(p int, before []int) {
		s := roomy(before)
		shorter := s[:len(s)/2]
		for _, call := range rowCalls() {
			mustBeApart(t, call.name, call.do(p, s, shorter))
			mustBeUntouched(t, call.name, p, s, before)
			mustBeApart(t, call.name, call.do(p, shorter, s))
			mustBeUntouched(t, call.name, p, s, before)
		}
	})
}
