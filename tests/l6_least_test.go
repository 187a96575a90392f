package tests

import (
	"slices"
	"testing"

	"loop.example/rationalstreams/impl"
)

// reach counts what kinds of rows are reached.
type reach struct {
	none    int // Start is 0
	alone   int // Start is chosen, and no other row of two or more states
	all     int // as many rows as states are chosen
	several int // a row that is left out is made of more than one of those chosen
}

func (r *reach) count(w, reached impl.Wa) {
	switch len(reached.Start) {
	case 0:
		r.none++
	case len(w.Start):
		r.all++
	case 1:
		r.alone++
	}
	for _, row := range slices.Concat(reached.A, reached.B) {
		if len(row)-len(slices.DeleteFunc(slices.Clone(row), func(a int) bool { return a != 0 })) > 1 {
			r.several++
			return
		}
	}
}

func TestP28ReachedRowsAreEnough(t *testing.T) {
	c := &chance{state: 72}
	var kinds reach
	eachWa(func(w impl.Wa) {
		got := impl.WaReached(w)
		mustBeReached(t, w, got, chosenRows(w))
		if len(got.Start) > len(w.Start) {
			t.Fatal("what is reached of", w, "is", got)
		}
		if word, ok := impl.WaDiffer(w, got); ok || word != nil {
			t.Fatal("what is reached of", w, "is", got, "which differs at", word)
		}
		for _, word := range c.someWords() {
			if weightBy(got, word) != weightBy(w, word) {
				t.Fatal("what is reached of", w, "is", got, "which differs at", word)
			}
		}
		if again := impl.WaReached(got); !sameWa(again, got) {
			t.Fatal("what is reached of", got, "is", again)
		}
		kinds.count(w, got)
	})
	if kinds.none < 100 || kinds.alone < 100 || kinds.all < 100 || kinds.several < 100 {
		t.Fatal("too few of one kind:", kinds)
	}
}

func TestP28StartOfZeroAloneChoosesNoRow(t *testing.T) {
	c := &chance{state: 73}
	for _, p := range primes {
		for states := range maxStates + 1 {
			w := c.wa(p, states)
			w.Start = make([]int, states)
			for _, got := range []impl.Wa{impl.WaReached(w), impl.WaLeast(w), impl.WaLeast(impl.WaBack(w))} {
				if !sameWa(got, impl.Wa{Prime: p}) {
					t.Fatal("of", w, "is made", got)
				}
			}
		}
	}
}

// TestP28AllRowsAreReached has paths, of which each state is reached by one letter.
func TestP28AllRowsAreReached(t *testing.T) {
	c := &chance{state: 74}
	for _, p := range primes {
		for _, word := range wordsTo(maxStates - 1) {
			path := pathOf(p, word, 1+c.below(p-1))
			if got := impl.WaReached(path); !sameWa(got, path) {
				t.Fatal("what is reached of", path, "is", got)
			}
			if got := impl.WaReached(c.stirred(path)); !sameWa(got, path) {
				t.Fatal("what is reached of", path, "and stirred is", got)
			}
			if got := impl.WaLeast(path); !sameWa(got, impl.WaBack(impl.WaReached(impl.WaBack(path)))) || len(got.Start) != len(word)+1 {
				t.Fatal("the least of", path, "is", got)
			}
		}
	}
}

func TestReachedExamples(t *testing.T) {
	list := []struct{ w, want impl.Wa }{
		{ // The rows are 1,0, and by a 2,1, and by a again 5,4, which is both together 4 times.
			impl.Wa{Prime: 7, Start: []int{1, 0}, A: [][]int{{2, 1}, {1, 2}}, B: [][]int{{0, 0}, {0, 0}}, End: []int{3, 4}},
			impl.Wa{Prime: 7, Start: []int{1, 0}, A: [][]int{{0, 1}, {4, 4}}, B: [][]int{{0, 0}, {0, 0}}, End: []int{3, 3}},
		},
		{ // By b the second row is reached, and by a none: the letters are told apart.
			impl.Wa{Prime: 2, Start: []int{0, 1}, A: [][]int{{1, 0}, {0, 1}}, B: [][]int{{0, 1}, {1, 0}}, End: []int{0, 1}},
			impl.Wa{Prime: 2, Start: []int{1, 0}, A: [][]int{{1, 0}, {0, 1}}, B: [][]int{{0, 1}, {1, 0}}, End: []int{1, 0}},
		},
		{ // The row by a comes before the one by b, and this before the one by a and a.
			impl.Wa{Prime: 13, Start: []int{1, 0, 0, 0}, A: [][]int{{0, 0, 1, 0}, {0, 0, 0, 0}, {0, 0, 0, 1}, {0, 0, 0, 0}}, B: [][]int{{0, 12, 0, 0}, {0, 0, 0, 0}, {0, 0, 0, 0}, {0, 0, 0, 0}}, End: []int{1, 2, 3, 4}},
			impl.Wa{Prime: 13, Start: []int{1, 0, 0, 0}, A: [][]int{{0, 1, 0, 0}, {0, 0, 0, 1}, {0, 0, 0, 0}, {0, 0, 0, 0}}, B: [][]int{{0, 0, 1, 0}, {0, 0, 0, 0}, {0, 0, 0, 0}, {0, 0, 0, 0}}, End: []int{1, 3, 11, 4}},
		},
		{ // A multiple of Start is made of it.
			impl.Wa{Prime: 13, Start: []int{5, 7}, A: [][]int{{3, 0}, {0, 3}}, B: [][]int{{12, 0}, {0, 12}}, End: []int{1, 1}},
			impl.Wa{Prime: 13, Start: []int{1}, A: [][]int{{3}}, B: [][]int{{12}}, End: []int{12}},
		},
		{ // What follows a row that is left out is left out.
			impl.Wa{Prime: 5, Start: []int{1, 0}, A: [][]int{{0, 0}, {1, 1}}, B: [][]int{{4, 0}, {1, 1}}, End: []int{2, 3}},
			impl.Wa{Prime: 5, Start: []int{1}, A: [][]int{{0}}, B: [][]int{{4}}, End: []int{2}},
		},
	}
	for _, x := range list {
		if got := impl.WaReached(x.w); !sameWa(got, x.want) {
			t.Error("what is reached of", x.w, "is", got, "not", x.want)
		}
	}
}

func TestP29NoAutomatonWithTheSameWeightsHasFewerStates(t *testing.T) {
	c := &chance{state: 75}
	fewer, few, many := 0, 0, 0
	eachWa(func(w impl.Wa) {
		got := impl.WaLeast(w)
		states := len(got.Start)
		if !isWa(got) || !sameWa(got, impl.WaBack(impl.WaReached(impl.WaBack(impl.WaReached(w))))) {
			t.Fatal("the least of", w, "is", got)
		}
		// Words of 5 letters reach all of at most 6 states, so no automaton with fewer states than this rank has the same weights.
		if rank := rankOf(w.Prime, wordTable(w, maxStates-1)); states != rank {
			t.Fatal("the least of", w, "is", got, "but the rank is", rank)
		}
		for _, word := range c.someWords() {
			if weightBy(got, word) != weightBy(w, word) {
				t.Fatal("the least of", w, "is", got, "which differs at", word)
			}
		}
		if word, ok := impl.WaDiffer(w, got); ok {
			t.Fatal("the least of", w, "is", got, "which differs at", word)
		}
		if back := impl.WaLeast(impl.WaBack(w)); len(back.Start) != states {
			t.Fatal("the least of", w, "is", got, "and backwards", back)
		}
		if again := impl.WaLeast(got); len(again.Start) != states {
			t.Fatal("the least of", got, "is", again)
		}
		if rank := impl.WaRank(w); states <= 4 && rank != states {
			t.Fatal("the least of", w, "is", got, "but the rank is", rank)
		}
		if states < len(w.Start) {
			fewer++
		}
		if states <= 4 {
			few++
		} else {
			many++
		}
	})
	if fewer < 100 || few < 100 || many < 100 {
		t.Fatal("too few of one kind:", fewer, few, many)
	}
}

// TestP29AmongAllSmallAutomata puts together all small automata with the same weights, and takes the one with the fewest states.
func TestP29AmongAllSmallAutomata(t *testing.T) {
	for _, small := range []struct{ p, most int }{{2, 2}, {3, 1}, {5, 1}, {7, 1}} {
		fewest := map[string]int{}
		weights := func(w impl.Wa) string {
			var list []byte
			for _, word := range wordsTo(2*small.most - 1) {
				list = append(list, byte(weightBy(w, word)))
			}
			return string(list)
		}
		for states := range small.most + 1 {
			for _, w := range smallWas(small.p, states) {
				same := weights(w)
				if _, seen := fewest[same]; !seen {
					fewest[same] = states
				}
				if got := impl.WaLeast(w); len(got.Start) != fewest[same] || weights(got) != same {
					t.Fatal("the least of", w, "is", got, "but there is one with", fewest[same], "states")
				}
			}
		}
	}
}

// TestP29EnlargedAutomataAreMadeSmall gives automata more states, which leave their weights as they are.
func TestP29EnlargedAutomataAreMadeSmall(t *testing.T) {
	c := &chance{state: 76}
	for _, p := range primes {
		for states := range maxStates + 1 {
			for _, w := range c.wasBy(p, states) {
				least := len(impl.WaLeast(w).Start)
				for more := range maxStates - states + 1 {
					large := c.stirred(c.enlarged(w, more))
					if got := impl.WaLeast(large); len(got.Start) != least {
						t.Fatal("the least of", large, "is", got, "but that of", w, "has", least, "states")
					}
				}
			}
		}
	}
}

func TestLeastOnesOfSums(t *testing.T) {
	c := &chance{state: 77}
	for _, p := range primes {
		for states := range maxStates/2 + 1 {
			for _, w := range c.wasBy(p, states) {
				less := clonedWa(w)
				for i, a := range w.End {
					less.End[i] = (p - a) % p
				}
				sum, ok := impl.WaAdd(w, less)
				if got := impl.WaLeast(sum); !ok || !sameWa(got, impl.Wa{Prime: p}) || impl.WaRank(sum) != 0 {
					t.Fatal("the least of", w, "less itself is", got)
				}
			}
		}
	}
}

func TestLeastAutomataExamples(t *testing.T) {
	w := impl.Wa{Prime: 5, Start: []int{1, 0}, A: [][]int{{1, 1}, {0, 1}}, B: [][]int{{1, 0}, {0, 1}}, End: []int{0, 1}}
	list := []struct{ w, want impl.Wa }{
		{w, impl.Wa{Prime: 5, Start: []int{0, 1}, A: [][]int{{0, 4}, {1, 2}}, B: [][]int{{1, 0}, {0, 1}}, End: []int{1, 0}}},
		{sumBy(w, w), impl.Wa{Prime: 5, Start: []int{0, 2}, A: [][]int{{0, 4}, {1, 2}}, B: [][]int{{1, 0}, {0, 1}}, End: []int{1, 0}}},
		{
			impl.Wa{Prime: 13, Start: []int{2, 3}, A: [][]int{{1, 1}, {5, 6}}, B: [][]int{{0, 9}, {8, 1}}, End: []int{0, 0}},
			impl.Wa{Prime: 13},
		},
		{
			impl.Wa{Prime: 2, Start: []int{1, 1}, A: [][]int{{0, 1}, {1, 0}}, B: [][]int{{1, 1}, {0, 0}}, End: []int{1, 0}},
			impl.Wa{Prime: 2, Start: []int{1}, A: [][]int{{1}}, B: [][]int{{1}}, End: []int{1}},
		},
	}
	for _, x := range list {
		if got := impl.WaLeast(x.w); !sameWa(got, x.want) {
			t.Error("the least of", x.w, "is", got, "not", x.want)
		}
	}
}

func TestP30ShortWordsDecide(t *testing.T) {
	words := wordsTo(5)
	none, atOnce, latest := 0, 0, 0
	eachTwoWas(func(a, b impl.Wa) {
		got, ok := impl.WaDiffer(a, b)
		want, wantOk := firstApart(a, b)
		if ok != wantOk || !slices.Equal(got, want) {
			t.Fatal("the first word at which", a, b, "differ is", got, ok, "not", want, wantOk)
		}
		if other, otherOk := impl.WaDiffer(b, a); otherOk != ok || !slices.Equal(other, got) {
			t.Fatal("the first word at which", a, b, "differ is", got, ok, "but exchanged", other, otherOk)
		}
		if ok {
			if impl.WeightOf(a, got) == impl.WeightOf(b, got) || len(got) >= len(a.Start)+len(b.Start) || !impl.WordOk(got) {
				t.Fatal("the first word at which", a, b, "differ is", got)
			}
			if len(got) == 0 {
				atOnce++
			}
			if len(got) == len(a.Start)+len(b.Start)-1 {
				latest++
			}
			return
		}
		none++
		if got != nil {
			t.Fatal(a, b, "do not differ, but the word is", got)
		}
		for _, word := range words {
			if weightBy(a, word) != weightBy(b, word) {
				t.Fatal("no word at which", a, b, "differ is told, but they differ at", word)
			}
		}
	})
	if none < 100 || atOnce < 100 || latest < 100 {
		t.Fatal("too few of one kind:", none, atOnce, latest)
	}
}

// TestP30TheLastOfTheWordsWithTheMostLetters has automata that differ at no word that is looked at but the last one, and at the first one of those with the most letters.
func TestP30TheLastOfTheWordsWithTheMostLetters(t *testing.T) {
	c := &chance{state: 78}
	for _, p := range primes {
		for one := range maxStates + 1 {
			for two := 1; two <= maxStates; two++ {
				for letter := range 2 {
					a, b := c.lateApartWas(p, one, two, letter)
					want := slices.Repeat([]int{letter}, one+two-1)
					if got, ok := impl.WaDiffer(a, b); !ok || !slices.Equal(got, want) {
						t.Fatal("the first word at which", a, b, "differ is", got, ok)
					}
					if got, ok := impl.WaDiffer(b, a); !ok || !slices.Equal(got, want) {
						t.Fatal("the first word at which", b, a, "differ is", got, ok)
					}
				}
			}
		}
	}
}

// TestP30AnyWordCanBeTheFirstOne has automata that weigh one word alone, and for words of the same length two of them.
func TestP30AnyWordCanBeTheFirstOne(t *testing.T) {
	c := &chance{state: 79}
	for _, p := range []int{2, 7, 13} {
		none := impl.Wa{Prime: p}
		for _, word := range wordsTo(maxStates - 1) {
			path := c.stirred(pathOf(p, word, 1+c.below(p-1)))
			if got, ok := impl.WaDiffer(path, none); !ok || !slices.Equal(got, word) {
				t.Fatal("the first word at which", path, "is not 0 is", got, ok, "not", word)
			}
			for _, other := range wordsTo(maxStates - 1) {
				want := word
				if len(other) < len(word) || len(other) == len(word) && slices.Compare(other, word) < 0 {
					want = other
				}
				second := c.stirred(pathOf(p, other, 1))
				got, ok := impl.WaDiffer(path, second)
				if slices.Equal(word, other) {
					want, _ = firstApart(path, second)
				}
				if !slices.Equal(got, want) || ok != (impl.WeightOf(path, word) != impl.WeightOf(second, word)) {
					t.Fatal("the first word at which", path, second, "differ is", got, ok, "not", want)
				}
			}
		}
	}
}

func TestP30TheFirstOneInTheOrderOfTheirLetters(t *testing.T) {
	for _, p := range primes {
		// By the weights 1 and 0 both letters differ.
		one := impl.Wa{Prime: p, Start: []int{1}, A: [][]int{{1}}, B: [][]int{{1}}, End: []int{1}}
		two := impl.Wa{Prime: p, Start: []int{1}, A: [][]int{{0}}, B: [][]int{{0}}, End: []int{1}}
		if got, ok := impl.WaDiffer(one, two); !ok || !slices.Equal(got, []int{letterA}) {
			t.Fatal("by", p, "the first word is", got, ok)
		}
		two.A[0][0] = 1
		if got, ok := impl.WaDiffer(one, two); !ok || !slices.Equal(got, []int{letterB}) {
			t.Fatal("by", p, "the first word is", got, ok)
		}
		both := sumBy(pathOf(p, []int{letterB, letterA}, 1), pathOf(p, []int{letterA, letterB}, 1))
		if got, ok := impl.WaDiffer(both, impl.Wa{Prime: p}); !ok || !slices.Equal(got, []int{letterA, letterB}) {
			t.Fatal("by", p, "the first word is", got, ok)
		}
	}
}

func TestP30AtTheEmptyWordAndNowhere(t *testing.T) {
	c := &chance{state: 80}
	for _, p := range primes {
		none := impl.Wa{Prime: p}
		if got, ok := impl.WaDiffer(none, none); ok || got != nil {
			t.Fatal("by", p, "nothing differs from nothing at", got)
		}
		for states := 1; states <= maxStates; states++ {
			for _, w := range c.wasBy(p, states) {
				if got, ok := impl.WaDiffer(w, w); ok || got != nil {
					t.Fatal(w, "differs from itself at", got)
				}
				other := clonedWa(w)
				other.Start, other.End = stateOf(states, 0), slices.Clone(w.End)
				other.End[0] = (weightBy(w, nil) + 1) % p
				if got, ok := impl.WaDiffer(w, other); !ok || len(got) != 0 {
					t.Fatal(w, "and", other, "differ at", got, ok)
				}
			}
		}
	}
}

func TestP85TablesHaveNoMoreRankThanStates(t *testing.T) {
	as, less := 0, 0
	eachWa(func(w impl.Wa) {
		rank, least := impl.WaRank(w), len(impl.WaLeast(w).Start)
		if want := rankOf(w.Prime, wordTable(w, 3)); rank != want {
			t.Fatal("the rank of", w, "is", rank, "not", want)
		}
		if back := impl.WaRank(impl.WaBack(w)); rank > least || back != rank {
			t.Fatal("the rank of", w, "is", rank, "and backwards", back, "but the least has", least, "states")
		}
		if rank == len(w.Start) {
			as++
		} else {
			less++
		}
	})
	if as < 100 || less < 100 {
		t.Fatal("too few of one kind:", as, less)
	}
}

func TestRanksOfPaths(t *testing.T) {
	for _, p := range primes {
		c := &chance{state: 81}
		for length := range maxStates {
			// A word of so many letters is cut in one place more; of each part at most 3 letters are in the table.
			path := c.stirred(pathOf(p, c.row(2, length), 1))
			want := []int{1, 2, 3, 4, 3, 2}[length]
			if got := impl.WaRank(path); got != want || len(impl.WaLeast(path).Start) != length+1 {
				t.Fatal("by", p, "the rank with a word of", length, "letters is", got)
			}
		}
		for letter := range 2 {
			r := impl.Rec{Prime: p, Times: stateOf(maxStates, maxStates-1), First: stateOf(maxStates, maxStates-1)}
			if got := impl.WaRank(streamOf(r, letter)); got != 2 {
				t.Fatal("by", p, "the rank of the stream", r, "is", got)
			}
		}
	}
	// A word is weighed by how many letters a it has, by the square of this number, and by both together.
	count := impl.Wa{Prime: 13, Start: []int{1, 0}, A: [][]int{{1, 1}, {0, 1}}, B: [][]int{{1, 0}, {0, 1}}, End: []int{0, 1}}
	square := productBy(count, count)
	both := sumBy(count, square)
	if one, two, three := impl.WaRank(count), impl.WaRank(square), impl.WaRank(both); one != 2 || two != 3 || three != 3 {
		t.Fatal("the ranks are", one, two, three)
	}
}

func TestP31WordsOfOneLetterAreAStream(t *testing.T) {
	just, fewer := 0, 0
	eachWa(func(w impl.Wa) {
		p, states := w.Prime, len(w.Start)
		var stream []int
		row := w.Start
		for range maxTerms {
			stream = append(stream, timesRow(p, [][]int{row}, w.End)[0])
			row = rowBy(p, row, w.A)
		}
		got := impl.WaRec(w)
		if !impl.RecValid(got) || got.Prime != p || !slices.Equal(impl.RecTerms(got, maxTerms), stream) || len(got.First) > states {
			t.Fatal("the recurrence of", w, "is", got, "but the weights are", stream)
		}
		for letters := range maxWord + 1 {
			if weight := impl.WeightOf(w, make([]int, letters)); weight != stream[letters] {
				t.Fatal("the weight of", letters, "letters by", w, "is", weight, "not", stream[letters])
			}
		}
		if order := lastOrder(ordersBy(p, stream)); len(got.First) != order {
			t.Fatal("the recurrence of", w, "is", got, "but the order is", order)
		}
		mustBeShortest(t, p, stream[:2*states], len(got.First))
		if want, ok := impl.ShortestRec(p, stream[:2*states]); !ok || !sameRec(got, want) {
			t.Fatal("the recurrence of", w, "is", got, "not", want)
		}
		if len(got.First) == states {
			just++
		} else {
			fewer++
		}
	})
	if just < 100 || fewer < 100 {
		t.Fatal("too few of one kind:", just, fewer)
	}
}

// TestP31StreamsAreToldAgain makes automata of recurrences.
func TestP31StreamsAreToldAgain(t *testing.T) {
	c := &chance{state: 82}
	eachRec(func(r impl.Rec) {
		w := streamOf(r, letterA)
		w.B = c.matrix(r.Prime, len(r.First), len(r.First))
		if got, want := impl.WaRec(c.stirred(w)), impl.RecLeast(r); !sameRec(got, want) {
			t.Fatal("the recurrence of the stream of", r, "is", got, "not", want)
		}
	})
}

func TestP31AThatTakesAllToZero(t *testing.T) {
	c := &chance{state: 83}
	for _, p := range primes {
		for states := 1; states <= maxStates; states++ {
			w := c.wa(p, states)
			w.A = zeros(states, states)
			want := impl.Rec{Prime: p}
			if first := weightBy(w, nil); first != 0 {
				want.Times, want.First = []int{0}, []int{first}
			}
			if got := impl.WaRec(w); !sameRec(got, want) {
				t.Fatal("the recurrence of", w, "is", got, "not", want)
			}
			// A takes all to 0 only after as many letters as there are states.
			path := pathOf(p, make([]int, states-1), p-1)
			want = impl.Rec{Prime: p, Times: make([]int, states), First: power(states-1, p-1)}
			if got := impl.WaRec(c.stirred(path)); !sameRec(got, want) {
				t.Fatal("the recurrence of", path, "is", got, "not", want)
			}
		}
	}
}
