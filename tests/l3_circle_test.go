package tests

import (
	"slices"
	"testing"

	"loop.example/rationalstreams/impl"
)

// maxCircle is the document's number of how far RecCircle looks.
const maxCircle = 3000

// circleOf holds each window against all later ones. A stream that comes back at all does so from a place that is at most the number of numbers in First: each step is the same matrix, and what its powers take to 0 grows no more behind so many.
func circleOf(r impl.Rec) (int, int, bool) {
	order := len(r.First)
	numbers := numbersOf(r, maxCircle+order)
	for from := range order + 1 {
		for many := 1; from+many <= maxCircle; many++ {
			if slices.Equal(numbers[from:from+order], numbers[from+many:from+many+order]) {
				return from, many, true
			}
		}
	}
	return 0, 0, false
}

func TestP12EveryStreamComesBack(t *testing.T) {
	found, later := 0, 0
	eachRec(func(r impl.Rec) {
		from, many, ok := impl.RecCircle(r)
		if wantFrom, wantMany, wantOk := circleOf(r); from != wantFrom || many != wantMany || ok != wantOk {
			t.Fatal(r, "comes back", from, many, ok, "not", wantFrom, wantMany, wantOk)
		}
		if !ok {
			return
		}
		found++
		if from > 0 {
			later++
		}
		numbers := impl.RecTerms(r, maxTerms)
		for place := from; place+many < maxTerms; place++ {
			if numbers[place] != numbers[place+many] {
				t.Fatal(r, "comes back", from, many, "but not at", place)
			}
		}
		for _, place := range []int{from, from + 1, from + 17, maxPower - many} {
			if impl.RecFar(r, place) != impl.RecFar(r, place+many) {
				t.Fatal(r, "comes back", from, many, "but not at", place)
			}
		}
		if order := len(r.Times); (order == 0 || r.Times[order-1] != 0) && from != 0 {
			t.Fatal(r, "comes back only from", from, "on")
		}
	})
	if found < 500 || later < 100 {
		t.Fatal("only", found, "came back,", later, "of them later")
	}
}

func TestP12CircleExamples(t *testing.T) {
	list := []struct {
		text       string
		from, many int
	}{
		{"7:1,1;0,1", 0, 16},
		{"7:1,1;0,0", 0, 1},
		{"3:0;2", 1, 1},
		{"3:0;0", 0, 1},
		{"3:;", 0, 1},
		{"2:;", 0, 1},
		{"2:1;1", 0, 1},
		{"3:2;1", 0, 2},
		{"13:2;1", 0, 12},
		{"2:1,1;0,1", 0, 3},
		{"2:1,0;0,1", 1, 1},
		{"2:1,0;1,1", 0, 1},
		{"5:0,0;0,3", 2, 1},
		{"5:0,0;3,0", 1, 1},
		{"5:0,0;0,0", 0, 1},
		{"2:0,0,0,0,0,1;1,0,0,0,0,0", 0, 6},
		{"2:0,0,0,0,0,1;1,0,0,1,0,0", 0, 3},
		{"2:0,0,0,0,0,0;0,0,0,0,0,1", 6, 1},
		{"2:0,0,0,0,0,0;0,0,0,1,0,0", 4, 1},
		{"13:0,0,0,0,1,0;5,5,5,5,5,7", 1, 5},
		{"13:0,0,0,0,1,0;5,5,5,5,5,5", 0, 1},
		{"3:0,1,0,0;1,0,1,2", 2, 2},
	}
	for _, x := range list {
		if from, many, ok := impl.RecCircle(mustRead(t, x.text)); from != x.from || many != x.many || !ok {
			t.Fatal(x.text, "comes back", from, many, ok)
		}
	}
}

// TestP12CirclesThatJustEnd has the streams whose place and number together come next to 3000 from both sides: by all orders of numbers and polynomials for the six primes there is none from 2931 to 3093.
func TestP12CirclesThatJustEnd(t *testing.T) {
	list := []struct {
		text       string
		from, many int
		ok         bool
	}{
		{"7:4,3,0,2,1;0,0,0,0,1", 0, 2801, true},
		{"11:10,3,2,1;0,0,0,1", 0, 2928, true},
		{"11:10,3,2,1,0;1,0,0,0,1", 0, 2928, true},
		{"11:10,3,2,1,0;2,0,0,0,1", 1, 2928, true},
		{"11:10,3,2,1,0,0;1,0,0,0,0,1", 2, 2928, true},
		{"11:10,3,2,1,0,0;0,1,0,0,0,1", 1, 2928, true},
		{"13:1,3,4,9,11,12;0,0,0,0,0,1", 0, 3094, false},
		{"7:4,2,1,0,1,3;0,0,0,0,0,1", 0, 3096, false},
		{"5:0,3,3,4,2;0,0,0,0,1", 0, 3124, false},
		{"5:0,3,3,4,2,0;4,0,0,0,0,1", 1, 3124, false},
	}
	for _, x := range list {
		r := mustRead(t, x.text)
		mustComeBack(t, r, x.from, x.many)
		from, many, ok := impl.RecCircle(r)
		if ok != x.ok || ok && (from != x.from || many != x.many) || !ok && (from != 0 || many != 0) {
			t.Fatal(x.text, "comes back", from, many, ok)
		}
	}
}

// mustComeBack fails unless the stream truly comes back from just this place on, with just so many numbers, without a bound.
func mustComeBack(t *testing.T, r impl.Rec, from, many int) {
	t.Helper()
	order := len(r.First)
	numbers := numbersOf(r, from+many+order)
	if !slices.Equal(numbers[from:from+order], numbers[from+many:]) {
		t.Fatal(r, "is told to come back", from, many, "but does not")
	}
	seen := map[[maxOrder]int]bool{}
	for place := range from + many {
		var row [maxOrder]int
		copy(row[:], numbers[place:place+order])
		if seen[row] {
			t.Fatal(r, "is told to come back", from, many, "but does so at", place)
		}
		seen[row] = true
	}
}

// TestP12GreatCircles has streams of all primes with MaxOrder numbers that mostly come back too late.
func TestP12GreatCircles(t *testing.T) {
	c := &chance{state: 36}
	missed := 0
	for _, p := range primes {
		for range 12 {
			r := c.rec(p, maxOrder)
			from, many, ok := impl.RecCircle(r)
			if wantFrom, wantMany, wantOk := circleOf(r); from != wantFrom || many != wantMany || ok != wantOk {
				t.Fatal(r, "comes back", from, many, ok, "not", wantFrom, wantMany, wantOk)
			}
			if !ok {
				missed++
			}
		}
	}
	if missed == 0 {
		t.Fatal("all came back")
	}
}
