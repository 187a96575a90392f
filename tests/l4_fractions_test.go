package tests

import (
	"math"
	"slices"
	"testing"

	"loop.example/rationalstreams/impl"
)

func TestP77FractionsMayBeZero(t *testing.T) {
	eachFrac(func(f impl.Frac) {
		if !impl.FracValid(f) {
			t.Fatal("not valid", f)
		}
		if !impl.FracValid(impl.Frac{Prime: f.Prime, Low: f.Low}) || !impl.FracValid(impl.Frac{Prime: f.Prime, Up: []int{}, Low: f.Low}) {
			t.Fatal("not valid with 0 above", f)
		}
		turnable := len(f.Up) > 0 && f.Up[0] != 0
		if impl.FracValid(impl.Frac{Prime: f.Prime, Up: f.Low, Low: f.Up}) != turnable {
			t.Fatal("with both exchanged", f, "is valid against", turnable)
		}
		if impl.FracValid(impl.Frac{Prime: f.Prime, Up: append(slices.Clone(f.Up), 0), Low: f.Low}) || impl.FracValid(impl.Frac{Prime: f.Prime, Up: f.Up, Low: append(slices.Clone(f.Low), 0)}) {
			t.Fatal("valid with 0 behind it", f)
		}
	})
	if impl.FracValid(impl.Frac{}) {
		t.Fatal("nothing is valid")
	}
}

func TestP77PolynomialsOfJustTwelveNumbersAndOfOneMore(t *testing.T) {
	c := &chance{state: 43}
	for _, p := range primes {
		for upper := range maxTerms + 2 {
			for lower := 1; lower <= maxTerms+1; lower++ {
				f := c.frac(p, upper, lower)
				if impl.FracValid(f) != (upper <= maxFrac && lower <= maxFrac) {
					t.Fatal("with", upper, "numbers above and", lower, "below", f)
				}
				f.Low[0] = 0
				if impl.FracValid(f) {
					t.Fatal("valid with 0 at the power 0 below", f)
				}
			}
			if impl.FracValid(impl.Frac{Prime: p, Up: c.poly(p, upper)}) {
				t.Fatal("valid with 0 below, with", upper, "numbers above")
			}
		}
	}
}

func TestP78TheLowerOneTakesTheSeriesToTheUpperOne(t *testing.T) {
	eachFrac(func(f impl.Frac) {
		want := seriesOf(f, maxTerms)
		up := append(slices.Clone(f.Up), make([]int, maxTerms)...)
		low := append(slices.Clone(f.Low), make([]int, maxTerms)...)
		for many := range maxTerms + 1 {
			series := impl.FracTerms(f, many)
			if !slices.Equal(series, want[:many]) {
				t.Fatal("the first", many, "of", f, "are", series, "not", want[:many])
			}
			if !slices.Equal(impl.SeriesTimes(f.Prime, low[:many], series), up[:many]) {
				t.Fatal("the lower one of", f, "takes", series, "to", impl.SeriesTimes(f.Prime, low[:many], series))
			}
		}
	})
}

func TestFracTermsExamples(t *testing.T) {
	list := []struct {
		f    impl.Frac
		many int
		want []int
	}{
		{impl.Frac{Prime: 7, Up: []int{0, 1}, Low: []int{1, 6, 6}}, 9, []int{0, 1, 1, 2, 3, 5, 1, 6, 0}},
		{impl.Frac{Prime: 7, Up: []int{0, 1}, Low: []int{1, 6, 6}}, 2, []int{0, 1}},
		{impl.Frac{Prime: 7, Up: []int{0, 1}, Low: []int{1, 6, 6}}, 1, []int{0}},
		{impl.Frac{Prime: 7, Up: []int{0, 1}, Low: []int{1, 6, 6}}, 0, nil},
		{impl.Frac{Prime: 7, Low: []int{3, 1}}, 3, []int{0, 0, 0}},
		{impl.Frac{Prime: 7, Low: []int{3, 1}}, 0, nil},
		{impl.Frac{Prime: 5, Up: []int{1, 2, 3}, Low: []int{1}}, 5, []int{1, 2, 3, 0, 0}},
		{impl.Frac{Prime: 5, Up: []int{1, 2, 3}, Low: []int{1}}, 2, []int{1, 2}},
		{impl.Frac{Prime: 5, Up: []int{1, 2, 3}, Low: []int{2}}, 5, []int{3, 1, 4, 0, 0}},
		{impl.Frac{Prime: 5, Up: []int{2, 2}, Low: []int{2, 2}}, 3, []int{1, 0, 0}},
		{impl.Frac{Prime: 5, Up: []int{3}, Low: []int{2, 1}}, 4, []int{4, 3, 1, 2}},
		{impl.Frac{Prime: 2, Up: []int{1}, Low: []int{1, 1}}, 4, []int{1, 1, 1, 1}},
		{impl.Frac{Prime: 2, Up: []int{0, 0, 1}, Low: []int{1, 1, 1}}, 8, []int{0, 0, 1, 1, 0, 1, 1, 0}},
		{impl.Frac{Prime: 13, Up: power(11, 12), Low: append([]int{1}, power(10, 12)...)}, 24, slices.Concat(power(11, 12), power(10, 12), []int{0})},
	}
	for _, x := range list {
		if got := impl.FracTerms(x.f, x.many); !slices.Equal(got, x.want) {
			t.Fatal("the first", x.many, "of", x.f, "are", got, "not", x.want)
		}
	}
}

func TestFracTermsOfOtherCounts(t *testing.T) {
	defer mustPanicNot(t, "a count of FracTerms")
	eachFrac(func(f impl.Frac) {
		for _, many := range []int{math.MinInt, -1000, -2, -1, maxTerms + 1, maxTerms + 2, 1000, 1 << 32, 1<<32 + 1, math.MaxInt} {
			if got := impl.FracTerms(f, many); got != nil {
				t.Fatal("the first", many, "of", f, "are", got)
			}
		}
	})
}

func TestP13LowestTermsAreOne(t *testing.T) {
	shorter, kept := 0, 0
	eachFrac(func(f impl.Frac) {
		p, least := f.Prime, impl.FracLeast(f)
		if !impl.FracValid(least) || !sameFrac(least, reduced(p, f.Up, f.Low)) {
			t.Fatal("in lowest terms", f, "is", least)
		}
		if least.Low[0] != 1 || !sameFrac(impl.FracLeast(least), least) {
			t.Fatal("in lowest terms", f, "is", least, "and this is", impl.FracLeast(least))
		}
		if divisor, _, _, ok := impl.PolyCommon(p, least.Up, least.Low); !ok || !slices.Equal(divisor, []int{1}) {
			t.Fatal("in lowest terms", f, "is", least, "which both are divided by", divisor)
		}
		if !slices.Equal(impl.FracTerms(least, maxTerms), seriesOf(f, maxTerms)) || !slices.Equal(impl.FracTerms(f, maxTerms), seriesOf(least, maxTerms)) {
			t.Fatal("in lowest terms", f, "is", least, "which has another series")
		}
		if len(least.Low) < len(f.Low) {
			shorter++
		} else {
			kept++
		}
	})
	if shorter < 500 || kept < 500 {
		t.Fatal("too few of one kind:", shorter, kept)
	}
}

// TestP13LowestTermsAreFoundAgain multiplies both polynomials of a fraction in lowest terms by the same ones.
func TestP13LowestTermsAreFoundAgain(t *testing.T) {
	c := &chance{state: 44}
	for _, p := range primes {
		for upper := 1; upper <= maxFrac; upper++ {
			for lower := 1; lower <= maxFrac; lower++ {
				least := c.lowest(p, upper, lower)
				if got := impl.FracLeast(least); !sameFrac(got, least) {
					t.Fatal("in lowest terms already", least, "is", got)
				}
				for room := 1; room+max(upper, lower) <= maxFrac+1; room++ {
					f := extended(least, c.lower(p, room))
					if got := impl.FracLeast(f); !sameFrac(got, least) {
						t.Fatal("in lowest terms", f, "is", got, "not", least)
					}
				}
			}
		}
		for lower := 1; lower <= maxFrac; lower++ {
			if got := impl.FracLeast(impl.Frac{Prime: p, Low: c.lower(p, lower)}); !sameFrac(got, zeroFrac(p)) {
				t.Fatal("by", p, "0 in lowest terms is", got)
			}
		}
	}
}

// TestP13NoDivisorIsLeft asks all polynomials whether they divide both.
func TestP13NoDivisorIsLeft(t *testing.T) {
	for _, small := range []struct{ p, most int }{{2, 5}, {3, 3}, {5, 2}} {
		for _, f := range smallFracs(small.p, small.most) {
			least := impl.FracLeast(f)
			for _, d := range allPolys(small.p, small.most) {
				if len(d) < 2 {
					continue
				}
				_, one := polyRest(small.p, least.Up, d)
				_, two := polyRest(small.p, least.Low, d)
				if len(one)+len(two) == 0 {
					t.Fatal("in lowest terms", f, "is", least, "which both are divided by", d)
				}
			}
		}
	}
}

func TestFracLeastExamples(t *testing.T) {
	list := []struct{ f, want impl.Frac }{
		{impl.Frac{Prime: 7, Up: []int{0, 2, 2}, Low: []int{2, 0, 3, 5}}, impl.Frac{Prime: 7, Up: []int{0, 1}, Low: []int{1, 6, 6}}},
		{impl.Frac{Prime: 7, Up: []int{0, 1}, Low: []int{1, 6, 6}}, impl.Frac{Prime: 7, Up: []int{0, 1}, Low: []int{1, 6, 6}}},
		{impl.Frac{Prime: 7, Up: []int{0, 3}, Low: []int{3, 4, 4}}, impl.Frac{Prime: 7, Up: []int{0, 1}, Low: []int{1, 6, 6}}},
		{impl.Frac{Prime: 7, Low: []int{3, 4, 4}}, impl.Frac{Prime: 7, Low: []int{1}}},
		{impl.Frac{Prime: 7, Low: []int{3}}, impl.Frac{Prime: 7, Low: []int{1}}},
		{impl.Frac{Prime: 7, Up: []int{5}, Low: []int{3}}, impl.Frac{Prime: 7, Up: []int{4}, Low: []int{1}}},
		{impl.Frac{Prime: 7, Up: []int{1, 2, 1}, Low: []int{1, 1}}, impl.Frac{Prime: 7, Up: []int{1, 1}, Low: []int{1}}},
		{impl.Frac{Prime: 7, Up: []int{1, 1}, Low: []int{2, 4, 2}}, impl.Frac{Prime: 7, Up: []int{4}, Low: []int{1, 1}}},
		{impl.Frac{Prime: 5, Up: []int{3, 3}, Low: []int{4, 4}}, impl.Frac{Prime: 5, Up: []int{2}, Low: []int{1}}},
		{impl.Frac{Prime: 2, Up: []int{1, 0, 1}, Low: []int{1, 1}}, impl.Frac{Prime: 2, Up: []int{1, 1}, Low: []int{1}}},
		{impl.Frac{Prime: 2, Up: []int{1, 1}, Low: []int{1, 0, 1}}, impl.Frac{Prime: 2, Up: []int{1}, Low: []int{1, 1}}},
		{impl.Frac{Prime: 2, Up: slices.Repeat([]int{1}, 12), Low: slices.Repeat([]int{1}, 12)}, impl.Frac{Prime: 2, Up: []int{1}, Low: []int{1}}},
		{impl.Frac{Prime: 13, Up: power(11, 6), Low: []int{2}}, impl.Frac{Prime: 13, Up: power(11, 3), Low: []int{1}}},
	}
	for _, x := range list {
		if got := impl.FracLeast(x.f); !sameFrac(got, x.want) {
			t.Fatal("in lowest terms", x.f, "is", got)
		}
	}
}

func TestP16AFewNumbersDecide(t *testing.T) {
	held, late := 0, 0
	eachTwoFracs(func(a, b impl.Frac) {
		same := impl.FracSame(a, b)
		one, two := seriesOf(a, 60), seriesOf(b, 60)
		if same != slices.Equal(one, two) || same != impl.FracSame(b, a) {
			t.Fatal("the same of", a, b, "is", same)
		}
		few := min(len(a.Up)+len(a.Low)+len(b.Up)+len(b.Low), maxTerms)
		if same != slices.Equal(impl.FracTerms(a, few), impl.FracTerms(b, few)) {
			t.Fatal("the same of", a, b, "is", same, "against the first numbers")
		}
		if same != sameFrac(impl.FracLeast(a), impl.FracLeast(b)) {
			t.Fatal("the same of", a, b, "is", same, "against the lowest terms")
		}
		if same && !sameFrac(a, b) {
			held++
		}
		if !same && slices.Equal(one[:maxFrac], two[:maxFrac]) {
			late++
		}
	})
	if held < 500 || late < 100 {
		t.Fatal("too few had the same series or parted late:", held, late)
	}
}

// TestP16SeriesThatPartOnlyLate has two series that are the same up to a known place, the last one at which different ones can part.
func TestP16SeriesThatPartOnlyLate(t *testing.T) {
	c := &chance{state: 45}
	for _, p := range primes {
		for half := 1; half < maxFrac; half++ {
			for begin := 0; begin+half < maxFrac; begin++ {
				a, b := c.lateApart(p, half, begin)
				place := 2*half + begin
				one, two := impl.FracTerms(a, place+1), impl.FracTerms(b, place+1)
				if len(one) != place+1 || !slices.Equal(one[:place], two[:place]) || one[place] == two[place] {
					t.Fatal("these do not part at", place, a, b, one, two)
				}
				if impl.FracSame(a, b) || impl.FracSame(b, a) {
					t.Fatal("the same are", a, b)
				}
			}
		}
	}
}

func TestFracSameExamples(t *testing.T) {
	list := []struct {
		a, b impl.Frac
		want bool
	}{
		{impl.Frac{Prime: 7, Low: []int{1}}, impl.Frac{Prime: 7, Low: []int{3, 1}}, true},
		{impl.Frac{Prime: 7, Low: []int{1}}, impl.Frac{Prime: 5, Low: []int{1}}, false},
		{impl.Frac{Prime: 7, Up: []int{1}, Low: []int{1}}, impl.Frac{Prime: 7, Up: []int{3}, Low: []int{3}}, true},
		{impl.Frac{Prime: 7, Up: []int{1}, Low: []int{1}}, impl.Frac{Prime: 5, Up: []int{1}, Low: []int{1}}, false},
		{impl.Frac{Prime: 7, Up: []int{1}, Low: []int{1}}, impl.Frac{Prime: 7, Up: []int{3}, Low: []int{2}}, false},
		{impl.Frac{Prime: 7, Up: []int{1}, Low: []int{1}}, impl.Frac{Prime: 7, Up: []int{1, 1}, Low: []int{1, 1}}, true},
		{impl.Frac{Prime: 7, Up: []int{1}, Low: []int{1}}, impl.Frac{Prime: 7, Up: []int{1}, Low: []int{1, 1}}, false},
		{impl.Frac{Prime: 7, Up: []int{0, 1}, Low: []int{1, 6, 6}}, impl.Frac{Prime: 7, Up: []int{0, 2, 2}, Low: []int{2, 0, 3, 5}}, true},
		{impl.Frac{Prime: 7, Up: []int{0, 1}, Low: []int{1, 6, 6}}, impl.Frac{Prime: 7, Up: []int{1}, Low: []int{1, 6, 6}}, false},
		{impl.Frac{Prime: 7, Low: []int{1}}, impl.Frac{Prime: 7, Up: power(11, 1), Low: []int{1}}, false},
		{impl.Frac{Prime: 2, Up: []int{1}, Low: []int{1, 1}}, impl.Frac{Prime: 2, Up: []int{1, 1}, Low: []int{1, 0, 1}}, true},
		{impl.Frac{Prime: 2, Up: []int{1}, Low: []int{1, 1}}, impl.Frac{Prime: 2, Up: slices.Repeat([]int{1}, 12), Low: []int{1}}, false},
	}
	for _, x := range list {
		if got := impl.FracSame(x.a, x.b); got != x.want {
			t.Fatal("the same of", x.a, x.b, "is", got)
		}
	}
}

func TestP79TurnedRoundTwiceItIsAsBefore(t *testing.T) {
	turned, begun := 0, 0
	eachFrac(func(f impl.Frac) {
		p := f.Prime
		back, ok := impl.FracBack(f)
		if len(f.Up) == 0 || f.Up[0] == 0 {
			begun++
			if ok || !isNoFrac(back) {
				t.Fatal("turned round", f, "is", back, ok)
			}
			return
		}
		turned++
		if !ok || !impl.FracValid(back) || !sameFrac(back, reduced(p, f.Low, f.Up)) {
			t.Fatal("turned round", f, "is", back, ok)
		}
		if one, oneOk := impl.FracTimes(f, back); !oneOk || !sameFrac(one, impl.Frac{Prime: p, Up: []int{1}, Low: []int{1}}) {
			t.Fatal("the product of", f, back, "is", one, oneOk)
		}
		if !slices.Equal(seriesProduct(p, seriesOf(f, maxTerms), seriesOf(back, maxTerms)), append([]int{1}, make([]int, maxTerms-1)...)) {
			t.Fatal("the product of the series of", f, back, "is not 1")
		}
		if again, againOk := impl.FracBack(back); !againOk || !sameFrac(again, impl.FracLeast(f)) {
			t.Fatal("turned round twice", f, "is", again, againOk)
		}
	})
	if turned < 500 || begun < 500 {
		t.Fatal("too few of one kind:", turned, begun)
	}
}

func TestFracBackExamples(t *testing.T) {
	list := []struct {
		f, want impl.Frac
		ok      bool
	}{
		{impl.Frac{Prime: 7, Up: []int{1}, Low: []int{1, 6}}, impl.Frac{Prime: 7, Up: []int{1, 6}, Low: []int{1}}, true},
		{impl.Frac{Prime: 7, Up: []int{1, 6}, Low: []int{1}}, impl.Frac{Prime: 7, Up: []int{1}, Low: []int{1, 6}}, true},
		{impl.Frac{Prime: 7, Up: []int{3}, Low: []int{1}}, impl.Frac{Prime: 7, Up: []int{5}, Low: []int{1}}, true},
		{impl.Frac{Prime: 7, Up: []int{3, 3}, Low: []int{1, 1}}, impl.Frac{Prime: 7, Up: []int{5}, Low: []int{1}}, true},
		{impl.Frac{Prime: 7, Up: []int{2, 1}, Low: []int{4, 4, 1}}, impl.Frac{Prime: 7, Up: []int{2, 1}, Low: []int{1}}, true},
		{impl.Frac{Prime: 7, Low: []int{1}}, impl.Frac{}, false},
		{impl.Frac{Prime: 7, Low: []int{3, 1}}, impl.Frac{}, false},
		{impl.Frac{Prime: 7, Up: []int{0, 1}, Low: []int{1}}, impl.Frac{}, false},
		{impl.Frac{Prime: 7, Up: []int{0, 1, 1}, Low: []int{1, 1}}, impl.Frac{}, false},
		{impl.Frac{Prime: 2, Up: []int{1, 0, 1}, Low: []int{1, 1}}, impl.Frac{Prime: 2, Up: []int{1}, Low: []int{1, 1}}, true},
		{impl.Frac{Prime: 2, Up: []int{0, 1}, Low: []int{1, 1}}, impl.Frac{}, false},
	}
	for _, x := range list {
		if got, ok := impl.FracBack(x.f); ok != x.ok || !sameFrac(got, x.want) {
			t.Fatal("turned round", x.f, "is", got, ok)
		}
	}
}

func TestP80TheNextSeriesIsOneLater(t *testing.T) {
	eachFrac(func(f impl.Frac) {
		p, series := f.Prime, seriesOf(f, maxTerms+3)
		next, ok := impl.FracShift(f)
		left := polySum(p, f.Up, negativePoly(p, polyMultiple(p, f.Low, series[0])))
		if len(left) > 0 {
			left = left[1:]
		}
		if !ok || !impl.FracValid(next) || !sameFrac(next, reduced(p, left, f.Low)) {
			t.Fatal("the next of", f, "is", next, ok)
		}
		if !slices.Equal(impl.FracTerms(next, maxTerms-1), impl.FracTerms(f, maxTerms)[1:]) {
			t.Fatal("the next of", f, "is", next, "which has the series", impl.FracTerms(next, maxTerms))
		}
		for later := 2; later <= 3; later++ {
			next, ok = impl.FracShift(next)
			if !ok || !slices.Equal(impl.FracTerms(next, maxTerms), series[later:][:maxTerms]) {
				t.Fatal(later, "later", f, "is", next, ok)
			}
		}
		if isZero(series[1:]) && !sameFrac(next, zeroFrac(p)) {
			t.Fatal("of", f, "there is left", next)
		}
	})
}

func TestFracShiftExamples(t *testing.T) {
	list := []struct{ f, want impl.Frac }{
		{impl.Frac{Prime: 7, Up: []int{0, 1}, Low: []int{1, 6, 6}}, impl.Frac{Prime: 7, Up: []int{1}, Low: []int{1, 6, 6}}},
		{impl.Frac{Prime: 7, Up: []int{1}, Low: []int{1, 6, 6}}, impl.Frac{Prime: 7, Up: []int{1, 1}, Low: []int{1, 6, 6}}},
		{impl.Frac{Prime: 7, Up: []int{2}, Low: []int{1, 6}}, impl.Frac{Prime: 7, Up: []int{2}, Low: []int{1, 6}}},
		{impl.Frac{Prime: 7, Up: []int{1, 2, 3}, Low: []int{1}}, impl.Frac{Prime: 7, Up: []int{2, 3}, Low: []int{1}}},
		{impl.Frac{Prime: 7, Up: []int{1, 2, 3}, Low: []int{2}}, impl.Frac{Prime: 7, Up: []int{1, 5}, Low: []int{1}}},
		{impl.Frac{Prime: 7, Up: []int{5}, Low: []int{1}}, impl.Frac{Prime: 7, Low: []int{1}}},
		{impl.Frac{Prime: 7, Low: []int{1}}, impl.Frac{Prime: 7, Low: []int{1}}},
		{impl.Frac{Prime: 7, Low: []int{3, 1, 1}}, impl.Frac{Prime: 7, Low: []int{1}}},
		{impl.Frac{Prime: 7, Up: []int{2, 3, 2}, Low: []int{1, 5, 1}}, impl.Frac{Prime: 7, Low: []int{1}}},
		{impl.Frac{Prime: 2, Up: []int{1}, Low: []int{1, 1}}, impl.Frac{Prime: 2, Up: []int{1}, Low: []int{1, 1}}},
		{impl.Frac{Prime: 2, Up: []int{1, 1}, Low: []int{1, 1}}, impl.Frac{Prime: 2, Low: []int{1}}},
		{impl.Frac{Prime: 13, Up: power(11, 1), Low: []int{1}}, impl.Frac{Prime: 13, Up: power(10, 1), Low: []int{1}}},
		{impl.Frac{Prime: 13, Up: []int{1}, Low: append([]int{1}, power(10, 12)...)}, impl.Frac{Prime: 13, Up: power(10, 1), Low: append([]int{1}, power(10, 12)...)}},
	}
	for _, x := range list {
		if got, ok := impl.FracShift(x.f); !ok || !sameFrac(got, x.want) {
			t.Fatal("the next of", x.f, "is", got, ok, "not", x.want)
		}
	}
}

func TestFractionsThatAreNotValid(t *testing.T) {
	eachBadFrac(func(bad impl.Frac) { mustBeNoFrac(t, bad) })
}

// mustBeNoFrac asks each function for the one result that it has for a fraction that is not valid.
func mustBeNoFrac(t *testing.T, bad impl.Frac) {
	t.Helper()
	defer mustPanicNot(t, "a fraction that is not valid")
	if impl.FracValid(bad) || !isNoFrac(impl.FracLeast(bad)) {
		t.Fatal("it is not valid, but", bad, "is", impl.FracValid(bad), impl.FracLeast(bad))
	}
	for _, many := range []int{-1, 0, 1, 2, maxFrac, maxTerms, maxTerms + 1} {
		if got := impl.FracTerms(bad, many); got != nil {
			t.Fatal("the first", many, "of", bad, "are", got)
		}
	}
	if got, ok := impl.FracBack(bad); ok || !isNoFrac(got) {
		t.Fatal("FracBack", bad, got, ok)
	}
	if got, ok := impl.FracShift(bad); ok || !isNoFrac(got) {
		t.Fatal("FracShift", bad, got, ok)
	}
	if got, ok := impl.RecOf(bad); ok || !isNothing(got) {
		t.Fatal("RecOf", bad, got, ok)
	}
	for _, good := range []impl.Frac{zeroFrac(2), zeroFrac(bad.Prime), {Prime: 13, Up: []int{1}, Low: []int{1}}, {Prime: bad.Prime, Up: []int{1}, Low: []int{1, 1}}, bad} {
		for _, pair := range [][2]impl.Frac{{bad, good}, {good, bad}} {
			mustNotMeet(t, pair[0], pair[1])
		}
	}
}

// mustNotMeet asks the functions of two fractions for the one result that they have where these do not go together.
func mustNotMeet(t *testing.T, a, b impl.Frac) {
	t.Helper()
	if impl.FracSame(a, b) {
		t.Fatal("the same are", a, b)
	}
	if got, ok := impl.FracAdd(a, b); ok || !isNoFrac(got) {
		t.Fatal("the sum of", a, b, "is", got, ok)
	}
	if got, ok := impl.FracTimes(a, b); ok || !isNoFrac(got) {
		t.Fatal("the product of", a, b, "is", got, ok)
	}
}

func TestFractionsForDifferentPrimes(t *testing.T) {
	c := &chance{state: 46}
	for _, p := range primes {
		for _, q := range primes {
			if p == q {
				continue
			}
			mustNotMeet(t, zeroFrac(p), zeroFrac(q))
			for _, low := range [][]int{{1}, {1, 1}, slices.Repeat([]int{1}, maxFrac)} {
				mustNotMeet(t, impl.Frac{Prime: p, Up: []int{1}, Low: low}, impl.Frac{Prime: q, Up: []int{1}, Low: low})
			}
			for range 20 {
				mustNotMeet(t, c.frac(p, c.below(maxFrac+1), 1+c.below(maxFrac)), c.frac(q, c.below(maxFrac+1), 1+c.below(maxFrac)))
			}
		}
	}
}
