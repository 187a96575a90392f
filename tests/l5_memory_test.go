package tests

import (
	"slices"
	"testing"

	"loop.example/rationalstreams/impl"
)

// startCalls has calls with a beginning; the second row is not looked at.
func startCalls() []call {
	return []call{
		{"ShortestRec", func(p int, s, _ []int) [][]int {
			r, _ := impl.ShortestRec(p, s)
			return rowsOf(r)
		}},
		{"OrdersOf", func(p int, s, _ []int) [][]int { return [][]int{impl.OrdersOf(p, s)} }},
		{"TableOf in one row", func(p int, s, _ []int) [][]int { return impl.TableOf(p, s, 1, len(s)) }},
		{"TableOf in one column", func(p int, s, _ []int) [][]int { return impl.TableOf(p, s, len(s), 1) }},
		{"TableOf", func(p int, s, _ []int) [][]int { return impl.TableOf(p, s, len(s)/2, (len(s)+1)/2) }},
		{"GuessOf", func(p int, s, _ []int) [][]int { impl.GuessOf(p, s, maxOrder); return nil }},
	}
}

// TestStartsAreNeitherWrittenToNorShared spoils each result, looks at the argument, and calls the function again.
func TestStartsAreNeitherWrittenToNorShared(t *testing.T) {
	calls := startCalls()
	eachStart(func(p int, before []int) {
		for _, call := range calls {
			s := roomy(before)
			result := call.do(p, s, nil)
			mustBeUntouched(t, call.name, p, s, before)
			kept := cloned(result)
			mustBeApart(t, call.name, slices.Clone(result))
			mustBeUntouched(t, call.name, p, s, before)
			if again := call.do(p, s, nil); !equal(again, kept) {
				t.Fatal(call.name, "by", p, "of", s, "is", again, "the second time, not", kept)
			}
		}
	})
}

// TestPartsOfOneRow gives the first numbers of a row, behind which the others stand.
func TestPartsOfOneRow(t *testing.T) {
	eachStart(func(p int, before []int) {
		s := roomy(before)
		part := s[:len(s)/2]
		for _, call := range startCalls() {
			result := call.do(p, part, nil)
			if alone := call.do(p, slices.Clone(part), nil); !equal(result, alone) {
				t.Fatal(call.name, "by", p, "of the first numbers of", s, "is", result, "not", alone)
			}
			mustBeApart(t, call.name, result)
			mustBeUntouched(t, call.name, p, s, before)
		}
	})
}

func TestShortestOnesAreNeitherWrittenToNorShared(t *testing.T) {
	calls := []recCall{
		{"StreamRank", func(a, b impl.Rec) [][]int { impl.StreamRank(a); return nil }},
		{"RecLeast", func(a, b impl.Rec) [][]int { return rowsOf(impl.RecLeast(a)) }},
		{"TableDets", func(a, b impl.Rec) [][]int { return [][]int{impl.TableDets(a)} }},
	}
	eachRec(func(before impl.Rec) {
		for _, call := range calls {
			r := roomyRec(before)
			mustBeOwn(t, call, r, r, before, before)
			row := roomy(before.First)
			one := impl.Rec{Prime: before.Prime, Times: row, First: row}
			same := impl.Rec{Prime: before.Prime, Times: before.First, First: before.First}
			mustBeOwn(t, call, one, one, same, same)
		}
	})
}
