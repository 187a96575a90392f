package tests

import (
	"slices"
	"testing"

	"loop.example/rationalstreams/impl"
)

func TestP82AutomataMayHaveNoStates(t *testing.T) {
	for _, p := range primes {
		for _, none := range []impl.Wa{{Prime: p}, {Prime: p, Start: []int{}, A: [][]int{}, B: [][]int{}, End: []int{}}} {
			if !impl.WaValid(none) {
				t.Fatal("not valid:", none)
			}
			for _, word := range wordsTo(4) {
				if got := impl.WeightOf(none, word); got != 0 {
					t.Fatal("the weight of", word, "by", none, "is", got)
				}
			}
			for _, got := range []impl.Wa{impl.WaBack(none), impl.WaReached(none), impl.WaLeast(none)} {
				if !sameWa(got, none) {
					t.Fatal("of", none, "is made", got)
				}
			}
			if rank, r := impl.WaRank(none), impl.WaRec(none); rank != 0 || !sameRec(r, impl.Rec{Prime: p}) {
				t.Fatal("the rank of", none, "is", rank, "and the recurrence", r)
			}
		}
	}
}

func TestP82NoNumberMoreInStart(t *testing.T) {
	eachWa(func(w impl.Wa) {
		if !impl.WaValid(w) {
			t.Fatal("not valid:", w)
		}
		for _, a := range []int{0, 1, -1, w.Prime} {
			more := clonedWa(w)
			more.Start = append(more.Start, a)
			if impl.WaValid(more) {
				t.Fatal("valid:", more)
			}
		}
	})
}

func TestP82JustMaxStatesAndOneMore(t *testing.T) {
	c := &chance{state: 63}
	for _, p := range primes {
		for states := range 20 {
			if got := impl.WaValid(c.wa(p, states)); got != (states <= maxStates) {
				t.Fatal("with", states, "states by", p, "it is valid:", got)
			}
		}
	}
}

func TestP83WordsCanBeShorter(t *testing.T) {
	words := wordsTo(maxWord)
	for _, word := range words {
		if !impl.WordOk(word) || len(word) > 0 && !impl.WordOk(word[1:]) {
			t.Fatal("not right:", word)
		}
		if len(word) == maxWord && (impl.WordOk(append(slices.Clone(word), letterA)) || impl.WordOk(append(slices.Clone(word), letterB))) {
			t.Fatal("right with one more:", word)
		}
	}
	if !impl.WordOk(nil) || !impl.WordOk([]int{}) || len(words) != 8191 {
		t.Fatal("words", len(words))
	}
}

func TestWordsThatAreNotRight(t *testing.T) {
	defer mustPanicNot(t, "a word that is not right")
	c := &chance{state: 64}
	for _, word := range badWords() {
		if impl.WordOk(word) {
			t.Fatal("right:", word)
		}
		for _, p := range primes {
			for states := range maxStates + 1 {
				if got := impl.WeightOf(c.wa(p, states), word); got != -1 {
					t.Fatal("the weight of", word, "is", got)
				}
			}
		}
	}
}

func TestP25BackwardsWordsHaveTheSameWeightBackwards(t *testing.T) {
	c := &chance{state: 65}
	eachWa(func(w impl.Wa) {
		back := impl.WaBack(w)
		for _, word := range c.someWords() {
			want := weightBy(w, word)
			if got, other := impl.WeightOf(w, word), impl.WeightOf(back, backwards(word)); got != want || other != want {
				t.Fatal("the weight of", word, "by", w, "is", got, "and backwards", other, "not", want)
			}
		}
	})
}

// TestP25WeightsAreSumsOverAllWays holds weights against the sum over all ways from state to state.
func TestP25WeightsAreSumsOverAllWays(t *testing.T) {
	c := &chance{state: 66}
	for _, p := range primes {
		for states := range maxStates + 1 {
			for _, w := range c.wasBy(p, states) {
				for _, word := range append(wordsTo(2), c.row(2, 3), c.row(2, 4)) {
					if got, want := impl.WeightOf(w, word), weightByWays(w, word); got != want {
						t.Fatal("the weight of", word, "by", w, "is", got, "not", want)
					}
				}
			}
		}
	}
}

// TestWeightsOfOneState weighs by powers of two numbers, and so tells the letters apart.
func TestWeightsOfOneState(t *testing.T) {
	for _, p := range primes {
		for a := range p {
			for b := range p {
				w := impl.Wa{Prime: p, Start: []int{p - 1}, A: [][]int{{a}}, B: [][]int{{b}}, End: []int{p - 1}}
				for _, word := range append(wordsTo(5), make([]int, maxWord), slices.Repeat([]int{letterB}, maxWord)) {
					want := 1
					for _, letter := range word {
						want = want * []int{a, b}[letter] % p
					}
					if got := impl.WeightOf(w, word); got != want {
						t.Fatal("the weight of", word, "by", w, "is", got, "not", want)
					}
				}
			}
		}
	}
}

func TestWeightsOfZeroAlone(t *testing.T) {
	c := &chance{state: 67}
	words := c.someWords()
	for _, p := range primes {
		for states := 1; states <= maxStates; states++ {
			start, end, none := c.wa(p, states), c.wa(p, states), c.wa(p, states)
			start.Start, end.End = make([]int, states), make([]int, states)
			none.A, none.B = zeros(states, states), zeros(states, states)
			for _, word := range words {
				if one, two := impl.WeightOf(start, word), impl.WeightOf(end, word); one != 0 || two != 0 {
					t.Fatal("the weights of", word, "are", one, two, "by", start, end)
				}
				want := 0
				if len(word) == 0 {
					want = weightBy(none, nil)
				}
				if got := impl.WeightOf(none, word); got != want {
					t.Fatal("the weight of", word, "by", none, "is", got)
				}
			}
		}
	}
}

func TestP84BackwardsTwiceIsForwards(t *testing.T) {
	eachWa(func(w impl.Wa) {
		back := impl.WaBack(w)
		if !sameWa(back, backBy(w)) || !sameWa(impl.WaBack(back), w) {
			t.Fatal("backwards", w, "is", back)
		}
	})
}

func TestP26WeightsAddUp(t *testing.T) {
	c := &chance{state: 68}
	just, refused := 0, 0
	eachTwoWas(func(a, b impl.Wa) {
		states := len(a.Start) + len(b.Start)
		sum, ok := impl.WaAdd(a, b)
		if ok != (states <= maxStates) || !ok && !isNoWa(sum) {
			t.Fatal("the sum of", a, b, "is", sum, ok)
		}
		if !ok {
			refused++
			return
		}
		if !isWa(sum) || !sameWa(sum, sumBy(a, b)) {
			t.Fatal("the sum of", a, b, "is", sum)
		}
		for _, word := range c.someWords() {
			if got := impl.WeightOf(sum, word); got != (weightBy(a, word)+weightBy(b, word))%a.Prime {
				t.Fatal("the weight of", word, "by the sum of", a, b, "is", got)
			}
		}
		if states == maxStates {
			just++
		}
	})
	if just < 100 || refused < 100 {
		t.Fatal("too few of one kind:", just, refused)
	}
}

func TestP27WeightsMultiply(t *testing.T) {
	c := &chance{state: 69}
	just, none, refused := 0, 0, 0
	eachTwoWas(func(a, b impl.Wa) {
		states := len(a.Start) * len(b.Start)
		product, ok := impl.WaTimes(a, b)
		if ok != (states <= maxStates) || !ok && !isNoWa(product) {
			t.Fatal("the product of", a, b, "is", product, ok)
		}
		if !ok {
			refused++
			return
		}
		if !isWa(product) || !sameWa(product, productBy(a, b)) {
			t.Fatal("the product of", a, b, "is", product)
		}
		for _, word := range c.someWords() {
			if got := impl.WeightOf(product, word); got != weightBy(a, word)*weightBy(b, word)%a.Prime {
				t.Fatal("the weight of", word, "by the product of", a, b, "is", got)
			}
		}
		switch states {
		case maxStates:
			just++
		case 0:
			none++
		}
	})
	if just < 50 || none < 100 || refused < 100 {
		t.Fatal("too few of one kind:", just, none, refused)
	}
}

// TestSumsAndProductsOfAllNumbersOfStates has each pair of numbers of states, up to one more than are valid.
func TestSumsAndProductsOfAllNumbersOfStates(t *testing.T) {
	c := &chance{state: 70}
	for _, p := range primes {
		for one := range maxStates + 2 {
			for two := range maxStates + 2 {
				a, b := c.wa(p, one), c.wa(p, two)
				valid := max(one, two) <= maxStates
				sum, ok := impl.WaAdd(a, b)
				if ok != (valid && one+two <= maxStates) || ok && len(sum.Start) != one+two || !ok && !isNoWa(sum) {
					t.Fatal("with", one, "and", two, "states the sum is", sum, ok)
				}
				product, ok := impl.WaTimes(a, b)
				if ok != (valid && one*two <= maxStates) || ok && len(product.Start) != one*two || !ok && !isNoWa(product) {
					t.Fatal("with", one, "and", two, "states the product is", product, ok)
				}
			}
		}
	}
}

func TestSumsAndProductsWithoutStates(t *testing.T) {
	for _, p := range primes {
		none := impl.Wa{Prime: p}
		for _, w := range (&chance{state: 71}).wasBy(p, maxStates) {
			one, ok := impl.WaAdd(none, w)
			two, okay := impl.WaAdd(w, none)
			if !ok || !okay || !sameWa(one, w) || !sameWa(two, w) {
				t.Fatal("the sums of", w, "and of nothing are", one, two)
			}
			one, ok = impl.WaTimes(none, w)
			two, okay = impl.WaTimes(w, none)
			if !ok || !okay || !sameWa(one, none) || !sameWa(two, none) {
				t.Fatal("the products of", w, "and of nothing are", one, two)
			}
		}
		sum, ok := impl.WaAdd(none, none)
		product, okay := impl.WaTimes(none, none)
		if !ok || !okay || !sameWa(sum, none) || !sameWa(product, none) {
			t.Fatal("the sum and the product of nothing by", p, "are", sum, product)
		}
	}
}

func TestAutomataExamples(t *testing.T) {
	a := impl.Wa{Prime: 5, Start: []int{1, 2}, A: [][]int{{0, 3}, {4, 1}}, B: [][]int{{2, 2}, {0, 1}}, End: []int{3, 4}}
	b := impl.Wa{Prime: 5, Start: []int{3}, A: [][]int{{2}}, B: [][]int{{4}}, End: []int{1}}
	for _, x := range []struct {
		word      []int
		one, both int
	}{
		{nil, 1, 3}, {[]int{0}, 4, 1}, {[]int{1}, 2, 2}, {[]int{0, 1}, 2, 4}, {[]int{1, 0}, 3, 4},
	} {
		if one, both := impl.WeightOf(a, x.word), impl.WeightOf(b, x.word); one != x.one || both != x.both {
			t.Error("the weights of", x.word, "are", one, both)
		}
	}
	sum := impl.Wa{Prime: 5, Start: []int{1, 2, 3}, A: [][]int{{0, 3, 0}, {4, 1, 0}, {0, 0, 2}}, B: [][]int{{2, 2, 0}, {0, 1, 0}, {0, 0, 4}}, End: []int{3, 4, 1}}
	if got, ok := impl.WaAdd(a, b); !ok || !sameWa(got, sum) {
		t.Error("the sum is", got, ok)
	}
	product := impl.Wa{Prime: 5, Start: []int{3, 1}, A: [][]int{{0, 1}, {3, 2}}, B: [][]int{{3, 3}, {0, 4}}, End: []int{3, 4}}
	if got, ok := impl.WaTimes(a, b); !ok || !sameWa(got, product) {
		t.Error("the product is", got, ok)
	}
	back := impl.Wa{Prime: 5, Start: []int{3, 4}, A: [][]int{{0, 4}, {3, 1}}, B: [][]int{{2, 0}, {2, 1}}, End: []int{1, 2}}
	if got := impl.WaBack(a); !sameWa(got, back) {
		t.Error("backwards it is", got)
	}
	square := impl.Wa{Prime: 5, Start: []int{1, 2, 2, 4}, A: [][]int{{0, 0, 0, 4}, {0, 0, 2, 3}, {0, 2, 0, 3}, {1, 4, 4, 1}}, B: [][]int{{4, 4, 4, 4}, {0, 2, 0, 2}, {0, 0, 2, 2}, {0, 0, 0, 1}}, End: []int{4, 2, 2, 1}}
	if got, ok := impl.WaTimes(a, a); !ok || !sameWa(got, square) {
		t.Error("the square is", got, ok)
	}
}

func TestAutomataThatAreNotValid(t *testing.T) {
	eachBadWa(func(bad impl.Wa) {
		defer mustPanicNot(t, "an automaton that is not valid")
		if impl.WaValid(bad) {
			t.Fatal("valid:", bad)
		}
		for _, word := range [][]int{nil, {letterA}, {letterB, letterA}, {2}} {
			if got := impl.WeightOf(bad, word); got != -1 {
				t.Fatal("the weight of", word, "by", bad, "is", got)
			}
		}
		for _, got := range []impl.Wa{impl.WaBack(bad), impl.WaReached(bad), impl.WaLeast(bad)} {
			if !isNoWa(got) {
				t.Fatal("of", bad, "is made", got)
			}
		}
		if rank, r := impl.WaRank(bad), impl.WaRec(bad); rank != -1 || !isNothing(r) {
			t.Fatal("the rank of", bad, "is", rank, "and the recurrence", r)
		}
	})
}

// mustRefuseBoth gives two automata of which one is not valid, or which are not for the same prime.
func mustRefuseBoth(t *testing.T, a, b impl.Wa) {
	t.Helper()
	defer mustPanicNot(t, "two automata that are not valid together")
	sum, sumOk := impl.WaAdd(a, b)
	product, productOk := impl.WaTimes(a, b)
	word, wordOk := impl.WaDiffer(a, b)
	if sumOk || productOk || wordOk || !isNoWa(sum) || !isNoWa(product) || word != nil {
		t.Fatal("of", a, b, "the sum is", sum, sumOk, "the product", product, productOk, "the word", word, wordOk)
	}
}

func TestTwoAutomataOfWhichOneIsNotValid(t *testing.T) {
	eachBadWa(func(bad impl.Wa) {
		good := []impl.Wa{{Prime: 7}, {Prime: 7, Start: []int{1}, A: [][]int{{1}}, B: [][]int{{1}}, End: []int{1}}}
		for _, w := range good {
			if slices.Contains(primes, bad.Prime) {
				w.Prime = bad.Prime
			}
			mustRefuseBoth(t, bad, w)
			mustRefuseBoth(t, w, bad)
		}
		mustRefuseBoth(t, bad, bad)
	})
}

func TestTwoAutomataOfDifferentPrimes(t *testing.T) {
	for _, p := range primes {
		for _, q := range primes {
			for states := range maxStates + 1 {
				a := impl.Wa{Prime: p, Start: make([]int, states), A: ones(states), B: ones(states), End: make([]int, states)}
				for _, b := range []impl.Wa{{Prime: q}, {Prime: q, Start: []int{1}, A: [][]int{{0}}, B: [][]int{{1}}, End: []int{1}}} {
					if p != q {
						mustRefuseBoth(t, a, b)
						mustRefuseBoth(t, b, a)
					}
				}
			}
		}
	}
}
