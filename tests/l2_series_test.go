package tests

import (
	"slices"
	"testing"

	"loop.example/rationalstreams/impl"
)

// eachBeginning gives beginnings of series: all short ones, mixed ones of all lengths, and some that begin with 0.
func eachBeginning(do func(p int, s []int)) {
	for _, small := range []struct{ p, most int }{{2, 6}, {3, 4}, {5, 2}, {13, 2}} {
		for length := range small.most + 1 {
			for _, s := range allRows(small.p, length) {
				do(small.p, s)
			}
		}
	}
	c := &chance{state: 31}
	for _, p := range primes {
		for length := range maxTerms + 1 {
			do(p, c.row(p, length))
			do(p, c.unit(p, length))
			do(p, make([]int, length))
			do(p, slices.Repeat([]int{p - 1}, length))
			do(p, append(make([]int, length/2), c.unit(p, length-length/2)...))
		}
	}
}

func one(length int) []int {
	s := make([]int, length)
	if length > 0 {
		s[0] = 1
	}
	return s
}

func TestP65BeginningsCanBeShorter(t *testing.T) {
	eachBeginning(func(p int, s []int) {
		if !impl.SeriesValid(p, s) {
			t.Fatal("by", p, "not valid", s)
		}
		if len(s) > 0 && !impl.SeriesValid(p, s[:len(s)-1]) {
			t.Fatal("by", p, "not valid without its last number", s)
		}
		if right := len(s) < maxTerms; impl.SeriesValid(p, append(slices.Clone(s), 0)) != right {
			t.Fatal("by", p, "with 0 behind it", s, "is not", right)
		}
	})
	for _, p := range primes {
		if !impl.SeriesValid(p, nil) || !impl.SeriesValid(p, []int{}) {
			t.Fatal("the empty one is not valid by", p)
		}
	}
}

func TestP69ProductsOfBeginnings(t *testing.T) {
	c := &chance{state: 32}
	eachBeginning(func(p int, s []int) {
		for _, other := range [][]int{nil, c.row(p, len(s)), c.row(p, c.below(maxTerms+1)), c.row(p, maxTerms), s, make([]int, c.below(maxTerms+1))} {
			checkSeriesTimes(t, p, s, other)
		}
		for length := len(s); length <= maxTerms; length++ {
			if got := impl.SeriesTimes(p, s, one(length)); !slices.Equal(got, s) {
				t.Fatal("by", p, s, "with 1 and then 0 alone is", got)
			}
		}
	})
}

func checkSeriesTimes(t *testing.T, p int, s, other []int) {
	t.Helper()
	got := impl.SeriesTimes(p, s, other)
	if !slices.Equal(got, seriesProduct(p, s, other)) {
		t.Fatal("by", p, s, other, "is", got)
	}
	if len(got) != min(len(s), len(other)) || !slices.Equal(got, impl.SeriesTimes(p, other, s)) {
		t.Fatal("exchanged by", p, s, other, "is", got)
	}
	for length := range min(len(s), len(other)) {
		if shorter := impl.SeriesTimes(p, s[:length], other); !slices.Equal(shorter, got[:length]) {
			t.Fatal("by", p, s[:length], other, "is", shorter)
		}
		if shorter := impl.SeriesTimes(p, s[:length], other[:length]); !slices.Equal(shorter, got[:length]) {
			t.Fatal("by", p, s[:length], other[:length], "is", shorter)
		}
	}
}

// TestP69ProductsAreThoseOfPolynomials holds the products against PolyTimes, as far as the polynomials are told.
func TestP69ProductsAreThoseOfPolynomials(t *testing.T) {
	c := &chance{state: 33}
	for _, p := range primes {
		for length := 1; length <= maxTerms/2; length++ {
			f, g := c.poly(p, length), c.poly(p, 1+c.below(maxTerms/2))
			want, ok := impl.PolyTimes(p, f, g)
			long := append(slices.Clone(f), make([]int, maxTerms-len(f))...)
			other := append(slices.Clone(g), make([]int, maxTerms-len(g))...)
			if got := impl.SeriesTimes(p, long, other); !ok || len(got) != maxTerms || !slices.Equal(trimmed(got), want) {
				t.Fatal("by", p, f, g, "is", got, "and as polynomials", want)
			}
		}
	}
}

func TestSeriesTimesExamples(t *testing.T) {
	full := slices.Repeat([]int{1}, maxTerms)
	counted := make([]int, maxTerms)
	for i := range counted {
		counted[i] = (i + 1) % 7
	}
	list := []struct {
		p             int
		s, t, product []int
	}{
		{5, []int{1, 1, 1, 1}, []int{1, 4}, []int{1, 0}},
		{5, []int{1, 1, 1, 1}, []int{1, 4, 0, 0}, []int{1, 0, 0, 0}},
		{5, []int{0, 0, 2}, []int{0, 3, 1}, []int{0, 0, 0}},
		{5, []int{0, 2, 0}, []int{0, 3, 1}, []int{0, 0, 1}},
		{5, []int{3}, []int{4, 1, 2}, []int{2}},
		{5, []int{0}, []int{4, 1, 2}, []int{0}},
		{5, nil, []int{1, 2}, nil},
		{5, []int{1, 2}, nil, nil},
		{5, nil, nil, nil},
		{2, []int{1, 1, 1}, []int{1, 1, 1}, []int{1, 0, 1}},
		{7, full, full, counted},
	}
	for _, x := range list {
		if got := impl.SeriesTimes(x.p, x.s, x.t); !slices.Equal(got, x.product) {
			t.Fatal("by", x.p, x.s, x.t, "is", got)
		}
	}
}

func TestP8InversesTurnBack(t *testing.T) {
	eachBeginning(func(p int, s []int) {
		back := impl.SeriesBack(p, s)
		if len(s) == 0 || s[0] == 0 {
			if back != nil {
				t.Fatal("by", p, s, "is", back)
			}
			return
		}
		if len(back) != len(s) || !allBelow(p, back) || !slices.Equal(seriesProduct(p, s, back), one(len(s))) {
			t.Fatal("by", p, s, "is", back)
		}
		if got := impl.SeriesTimes(p, s, back); !slices.Equal(got, one(len(s))) {
			t.Fatal("by", p, s, "the product with", back, "is", got)
		}
		if got := impl.SeriesBack(p, back); !slices.Equal(got, s) {
			t.Fatal("by", p, s, "the inverse of the inverse is", got)
		}
		for length := 1; length < len(s); length++ {
			if got := impl.SeriesBack(p, s[:length]); !slices.Equal(got, back[:length]) {
				t.Fatal("by", p, s[:length], "is", got, "not the beginning of", back)
			}
		}
	})
}

func TestBackExamples(t *testing.T) {
	full := slices.Repeat([]int{1}, maxTerms)
	list := []struct {
		p       int
		s, back []int
	}{
		{5, []int{1, 4, 4, 0, 0}, []int{1, 1, 2, 3, 0}},
		{5, []int{3}, []int{2}},
		{5, []int{3, 0, 0}, []int{2, 0, 0}},
		{5, []int{0, 1}, nil},
		{5, []int{0}, nil},
		{5, nil, nil},
		{5, []int{}, nil},
		{5, make([]int, maxTerms), nil},
		{2, []int{1, 1, 0, 0}, []int{1, 1, 1, 1}},
		{2, []int{1, 0, 1, 0}, []int{1, 0, 1, 0}},
		{7, full, append([]int{1, 6}, make([]int, maxTerms-2)...)},
		{13, []int{12, 1}, []int{12, 12}},
	}
	for _, x := range list {
		if got := impl.SeriesBack(x.p, x.s); !slices.Equal(got, x.back) {
			t.Fatal("by", x.p, x.s, "is", got)
		}
	}
}

func TestBeginningsThatAreNotValid(t *testing.T) {
	for _, p := range primes {
		for _, bad := range badBeginnings(p) {
			mustBeNoBeginning(t, p, bad)
		}
	}
	for _, p := range noPrimes {
		for _, s := range [][]int{nil, {}, {0}, {1}, {1, 0}, {1, 1}, {p - 1}, {p}} {
			mustBeNoBeginning(t, p, s)
		}
	}
}

// mustBeNoBeginning asks each function for the one result that it has for a beginning that is not valid.
func mustBeNoBeginning(t *testing.T, p int, bad []int) {
	t.Helper()
	defer mustPanicNot(t, "a beginning that is not valid")
	if impl.SeriesValid(p, bad) {
		t.Fatal("SeriesValid", p, bad)
	}
	for _, good := range [][]int{nil, {0}, {1}, {1, 0}, make([]int, maxTerms), bad} {
		if impl.SeriesTimes(p, bad, good) != nil || impl.SeriesTimes(p, good, bad) != nil {
			t.Fatal("SeriesTimes", p, bad, good)
		}
	}
	if impl.SeriesBack(p, bad) != nil {
		t.Fatal("SeriesBack", p, bad)
	}
}
