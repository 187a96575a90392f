package tests

import (
	"slices"
	"testing"

	"loop.example/rationalstreams/impl"
)

// fracOf is both polynomials of the stream of a recurrence, not in lowest terms.
func fracOf(r impl.Rec) (up, low []int) {
	low = []int{1}
	for _, times := range r.Times {
		low = append(low, (r.Prime-times)%r.Prime)
	}
	return trimmed(seriesProduct(r.Prime, low, r.First)), trimmed(low)
}

func TestP17RecurrencesAreFractions(t *testing.T) {
	ended := 0
	eachRec(func(r impl.Rec) {
		f := impl.FracOf(r)
		up, low := fracOf(r)
		if !impl.FracValid(f) || !sameFrac(f, reduced(r.Prime, up, low)) || !sameFrac(f, impl.FracLeast(f)) {
			t.Fatal("the fraction of", r, "is", f)
		}
		if !slices.Equal(impl.FracTerms(f, maxTerms), impl.RecTerms(r, maxTerms)) || !slices.Equal(seriesOf(f, 60), numbersOf(r, 60)) {
			t.Fatal("the fraction of", r, "is", f, "which has the series", impl.FracTerms(f, maxTerms))
		}
		if len(f.Up) > len(r.First) || len(f.Low) > len(r.First)+1 {
			t.Fatal("the fraction of", r, "is", f, "which is too long")
		}
		if order := len(r.Times); order > 0 && r.Times[order-1] == 0 {
			ended++
		}
	})
	if ended < 100 {
		t.Fatal("only", ended, "had a last number of Times that is 0")
	}
}

func TestP17TheSameStreamHasTheSameFraction(t *testing.T) {
	held := 0
	eachTwo(func(a, b impl.Rec) {
		one, two := impl.FracOf(a), impl.FracOf(b)
		if same := impl.RecSame(a, b); same != sameFrac(one, two) || same != impl.FracSame(one, two) {
			t.Fatal("the same of", a, b, "is", same, "but their fractions are", one, two)
		} else if same && !sameRec(a, b) {
			held++
		}
	})
	if held < 500 {
		t.Fatal("only", held, "times two different ones had the same stream")
	}
}

func TestFracOfExamples(t *testing.T) {
	list := []struct {
		text string
		want impl.Frac
	}{
		{"7:1,1;0,1", impl.Frac{Prime: 7, Up: []int{0, 1}, Low: []int{1, 6, 6}}},
		{"7:1,1;1,1", impl.Frac{Prime: 7, Up: []int{1}, Low: []int{1, 6, 6}}},
		{"7:1,1;0,0", zeroFrac(7)},
		{"7:;", zeroFrac(7)},
		{"2:;", zeroFrac(2)},
		{"7:0;0", zeroFrac(7)},
		{"7:0;3", impl.Frac{Prime: 7, Up: []int{3}, Low: []int{1}}},
		{"5:0,0;0,3", impl.Frac{Prime: 5, Up: []int{0, 3}, Low: []int{1}}},
		{"5:1,0;2,3", impl.Frac{Prime: 5, Up: []int{2, 1}, Low: []int{1, 4}}},
		{"5:1,0;3,3", impl.Frac{Prime: 5, Up: []int{3}, Low: []int{1, 4}}},
		{"5:0,1;3,3", impl.Frac{Prime: 5, Up: []int{3}, Low: []int{1, 4}}},
		{"2:1;1", impl.Frac{Prime: 2, Up: []int{1}, Low: []int{1, 1}}},
		{"2:0,1;1,1", impl.Frac{Prime: 2, Up: []int{1}, Low: []int{1, 1}}},
		{"2:0,0,1;1,1,0", impl.Frac{Prime: 2, Up: []int{1}, Low: []int{1, 1, 1}}},
		{"13:0,0,0,0,0,12;1,2,3,4,5,6", impl.Frac{Prime: 13, Up: []int{1, 2, 3, 4, 5, 6}, Low: []int{1, 0, 0, 0, 0, 0, 1}}},
		{"13:0,0,0,0,0,0;0,0,0,0,0,12", impl.Frac{Prime: 13, Up: []int{0, 0, 0, 0, 0, 12}, Low: []int{1}}},
	}
	for _, x := range list {
		if got := impl.FracOf(mustRead(t, x.text)); !sameFrac(got, x.want) {
			t.Fatal("the fraction of", x.text, "is", got)
		}
	}
}

func TestFracOfRecurrencesThatAreNotValid(t *testing.T) {
	eachBadRec(func(bad impl.Rec) {
		defer mustPanicNot(t, "a recurrence that is not valid")
		if got := impl.FracOf(bad); !isNoFrac(got) {
			t.Fatal("the fraction of", bad, "is", got)
		}
	})
}

// recBy is the recurrence of a fraction in lowest terms.
func recBy(f impl.Frac) impl.Rec {
	order := max(len(f.Up), len(f.Low)-1)
	r := impl.Rec{Prime: f.Prime, Times: make([]int, order), First: seriesOf(f, order)}
	for i := 1; i < len(f.Low); i++ {
		r.Times[i-1] = (f.Prime - f.Low[i]) % f.Prime
	}
	return r
}

// mustBecomeRec holds the recurrence of a fraction against the one of its lowest terms.
func mustBecomeRec(t *testing.T, f, least impl.Frac) {
	t.Helper()
	got, ok := impl.RecOf(f)
	if ok != (max(len(least.Up), len(least.Low)-1) <= maxOrder) {
		t.Fatal("the recurrence of", f, "is", got, ok)
	}
	if !ok {
		if !isNothing(got) {
			t.Fatal("no recurrence of", f, "but", got)
		}
		return
	}
	if !impl.RecValid(got) || !sameRec(got, recBy(least)) {
		t.Fatal("the recurrence of", f, "is", got, "not", recBy(least))
	}
	if !slices.Equal(impl.RecTerms(got, maxTerms), impl.FracTerms(f, maxTerms)) || !slices.Equal(numbersOf(got, 60), seriesOf(f, 60)) {
		t.Fatal("the recurrence of", f, "is", got, "which has the stream", impl.RecTerms(got, maxTerms))
	}
	if again := impl.FracOf(got); !sameFrac(again, impl.FracLeast(f)) || !sameFrac(again, least) {
		t.Fatal("the recurrence of", f, "is", got, "and the fraction of this", again)
	}
}

func TestP18FractionsAreRecurrencesAgain(t *testing.T) {
	eachFrac(func(f impl.Frac) { mustBecomeRec(t, f, reduced(f.Prime, f.Up, f.Low)) })
}

// TestP18RecurrencesOfJustMaxOrderAndOfOneMore has fractions in lowest terms with all numbers of numbers above and below, and those of the same series that are longer.
func TestP18RecurrencesOfJustMaxOrderAndOfOneMore(t *testing.T) {
	c := &chance{state: 51}
	for _, p := range primes {
		for upper := 1; upper <= maxOrder+3; upper++ {
			for lower := 1; lower <= maxOrder+4; lower++ {
				least := c.lowest(p, upper, lower)
				got, ok := impl.RecOf(least)
				if ok != (upper <= maxOrder && lower <= maxOrder+1) || ok && len(got.First) != max(upper, lower-1) {
					t.Fatal("with", upper, "numbers above and", lower, "below", least, "is", got, ok)
				}
				mustBecomeRec(t, least, least)
				mustBecomeRec(t, extended(least, c.lower(p, maxFrac+1-max(upper, lower))), least)
			}
		}
		for lower := 1; lower <= maxFrac; lower++ {
			mustBecomeRec(t, impl.Frac{Prime: p, Low: c.lower(p, lower)}, zeroFrac(p))
		}
	}
}

// TestP18ThereAndBackIsNoLonger makes recurrences of the fractions of recurrences.
func TestP18ThereAndBackIsNoLonger(t *testing.T) {
	eachRec(func(r impl.Rec) {
		got, ok := impl.RecOf(impl.FracOf(r))
		if !ok || !impl.RecSame(got, r) || len(got.First) > len(r.First) {
			t.Fatal("there and back", r, "is", got, ok)
		}
	})
}

func TestRecOfExamples(t *testing.T) {
	list := []struct {
		f    impl.Frac
		text string
	}{
		{impl.Frac{Prime: 7, Up: []int{0, 1}, Low: []int{1, 6, 6}}, "7:1,1;0,1"},
		{impl.Frac{Prime: 7, Up: []int{0, 2, 2}, Low: []int{2, 0, 3, 5}}, "7:1,1;0,1"},
		{impl.Frac{Prime: 7, Up: []int{0, 1}, Low: []int{1}}, "7:0,0;0,1"},
		{impl.Frac{Prime: 7, Up: []int{0, 1}, Low: []int{3}}, "7:0,0;0,5"},
		{impl.Frac{Prime: 7, Up: []int{5}, Low: []int{1}}, "7:0;5"},
		{zeroFrac(7), "7:;"},
		{impl.Frac{Prime: 7, Low: []int{3, 1, 1}}, "7:;"},
		{impl.Frac{Prime: 7, Up: []int{1}, Low: []int{1, 6}}, "7:1;1"},
		{impl.Frac{Prime: 7, Up: []int{1, 1}, Low: []int{1, 6}}, "7:1,0;1,2"},
		{impl.Frac{Prime: 7, Up: []int{1, 0, 1}, Low: []int{1, 6}}, "7:1,0,0;1,1,2"},
		{impl.Frac{Prime: 7, Up: []int{1}, Low: []int{1, 0, 0, 6}}, "7:0,0,1;1,0,0"},
		{impl.Frac{Prime: 2, Up: []int{1, 1}, Low: []int{1, 0, 1}}, "2:1;1"},
		{impl.Frac{Prime: 2, Up: []int{1}, Low: []int{1, 1, 1}}, "2:1,1;1,1"},
		{impl.Frac{Prime: 13, Up: power(5, 12), Low: []int{1}}, "13:0,0,0,0,0,0;0,0,0,0,0,12"},
		{impl.Frac{Prime: 13, Up: power(6, 12), Low: []int{1}}, ""},
		{impl.Frac{Prime: 13, Up: []int{1}, Low: []int{1, 0, 0, 0, 0, 0, 1}}, "13:0,0,0,0,0,12;1,0,0,0,0,0"},
		{impl.Frac{Prime: 13, Up: []int{1}, Low: []int{1, 0, 0, 0, 0, 0, 0, 1}}, ""},
		{impl.Frac{Prime: 13, Up: power(11, 1), Low: []int{1}}, ""},
		{impl.Frac{Prime: 13, Up: slices.Repeat([]int{1}, 12), Low: slices.Repeat([]int{2}, 12)}, "13:0;7"},
	}
	for _, x := range list {
		if got, ok := impl.RecOf(x.f); ok != (x.text != "") || impl.RecText(got) != x.text {
			t.Fatal("the recurrence of", x.f, "is", got, ok)
		}
	}
}
