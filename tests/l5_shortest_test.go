package tests

import (
	"slices"
	"testing"

	"loop.example/rationalstreams/impl"
)

func TestP19TheShortestOneBeginsSo(t *testing.T) {
	told, refused, free := 0, 0, 0
	eachStart(func(p int, s []int) {
		order := lastOrder(ordersBy(p, s))
		mustBeShortest(t, p, s, order)
		if got := lastOrder(impl.OrdersOf(p, s)); got != order {
			t.Fatal("by", p, "the order of", s, "is", got, "not", order)
		}
		if order > maxOrder {
			refused++
			return
		}
		told++
		if rankOf(p, firstColumns(equationsOf(s, order), order)) < order {
			free++
		}
	})
	if told < 500 || refused < 500 || free < 500 {
		t.Fatal("too few of one kind:", told, refused, free)
	}
}

// TestP19NoOtherIsShorter tries all recurrences.
func TestP19NoOtherIsShorter(t *testing.T) {
	check := func(p int, s []int) {
		t.Helper()
		want, wantOk := shortestByTrying(p, s)
		if got, ok := impl.ShortestRec(p, s); ok != wantOk || !sameRec(got, want) {
			t.Fatal("by", p, "the shortest of", s, "is", got, ok, "not", want, wantOk)
		}
	}
	for _, small := range []struct{ p, most int }{{2, 10}, {3, 6}, {5, 4}, {7, 3}, {11, 2}, {13, 2}} {
		for length := range small.most + 1 {
			for _, s := range allRows(small.p, length) {
				check(small.p, s)
			}
		}
	}
	c := &chance{state: 52}
	for _, p := range []int{2, 3} {
		for length := range maxTerms + 1 {
			for _, s := range c.startsBy(p, length) {
				check(p, s)
			}
		}
	}
	for _, p := range primes {
		for order := range 4 {
			for _, r := range c.recsBy(p, order) {
				check(p, numbersOf(r, max(2*order-1, 0)))
				check(p, numbersOf(r, 2*order+c.below(6)))
			}
		}
	}
}

// TestP19RecurrencesOfJustMaxOrderAndOfOneMore has beginnings whose order is known, since they are 0 up to a place.
func TestP19RecurrencesOfJustMaxOrderAndOfOneMore(t *testing.T) {
	c := &chance{state: 53}
	for _, p := range primes {
		for order := 1; order <= maxTerms; order++ {
			for length := order; length <= maxTerms; length++ {
				// The first number that is not 0 has order-1 before it: so one with fewer numbers in First would have 0 alone.
				times := c.row(p, order)
				s := numbersOf(impl.Rec{Prime: p, Times: times, First: power(order-1, 1+c.below(p-1))}, length)
				got, ok := impl.ShortestRec(p, s)
				if ok != (order <= maxOrder) || ok && len(got.First) != order || !ok && !isNothing(got) {
					t.Fatal("by", p, "the shortest of", s, "is", got, ok)
				}
				if ok && length >= 2*order && !slices.Equal(got.Times, times) {
					t.Fatal("by", p, "the shortest of", s, "is", got, "not with", times)
				}
				if got := impl.OrdersOf(p, s); !slices.Equal(got, slices.Concat(make([]int, order-1), slices.Repeat([]int{order}, length-order+1))) {
					t.Fatal("by", p, "the orders of", s, "are", got)
				}
			}
		}
	}
}

func TestP19NumbersOfZeroAlone(t *testing.T) {
	for _, p := range primes {
		for length := range maxTerms + 1 {
			s := make([]int, length)
			if got, ok := impl.ShortestRec(p, s); !ok || !sameRec(got, impl.Rec{Prime: p}) {
				t.Fatal("by", p, "the shortest of", s, "is", got, ok)
			}
			if got := impl.OrdersOf(p, s); !slices.Equal(got, s) {
				t.Fatal("by", p, "the orders of", s, "are", got)
			}
		}
		if got, ok := impl.ShortestRec(p, nil); !ok || !sameRec(got, impl.Rec{Prime: p}) || len(impl.OrdersOf(p, nil)) != 0 {
			t.Fatal("by", p, "the shortest of nothing is", got, ok)
		}
	}
}

func TestShortestExamples(t *testing.T) {
	list := []struct {
		p    int
		s    []int
		text string
	}{
		{7, nil, "7:;"},
		{2, []int{}, "2:;"},
		{7, []int{0}, "7:;"},
		{7, []int{3}, "7:0;3"},
		{7, []int{3, 0}, "7:0;3"},
		{7, []int{0, 3}, "7:0,0;0,3"},
		{7, []int{3, 3}, "7:1;3"},
		{7, []int{3, 1}, "7:5;3"},
		{7, []int{1, 1, 1, 0}, "7:0,0,0;1,1,1"},
		{7, []int{0, 1, 1, 2, 3, 5}, "7:1,1;0,1"},
		{7, []int{0, 1, 1, 2}, "7:1,1;0,1"},
		{7, []int{0, 1, 1}, "7:1,0;0,1"},
		{7, []int{0, 1}, "7:0,0;0,1"},
		{7, []int{0, 0, 0, 1}, "7:0,0,0,0;0,0,0,1"},
		{7, []int{0, 0, 1, 2, 4}, "7:2,0,0;0,0,1"},
		{7, []int{0, 0, 1, 2, 5}, "7:2,1,0;0,0,1"},
		{7, []int{1, 2, 4, 1, 2, 4}, "7:2;1"},
		{7, []int{1, 2, 4, 1, 2, 5}, "7:6,0,0,0,0;1,2,4,1,2"},
		{2, []int{1, 0, 1, 0, 1, 0}, "2:0,1;1,0"},
		{2, []int{0, 0, 0, 0, 0, 1}, "2:0,0,0,0,0,0;0,0,0,0,0,1"},
		{2, []int{0, 0, 0, 0, 0, 0, 1}, ""},
		{2, []int{1, 1, 1, 1, 1, 1, 0}, "2:0,0,0,0,0,0;1,1,1,1,1,1"},
		{2, []int{1, 1, 1, 1, 1, 1, 1, 0}, ""},
		{13, []int{12, 1, 12, 1}, "13:12;12"},
		{13, []int{0, 0, 0, 0, 0, 12, 0, 0, 0, 0, 0, 0, 12}, ""},
		{13, []int{0, 0, 0, 0, 0, 12, 0, 0, 0, 0, 0, 1}, "13:0,0,0,0,0,12;0,0,0,0,0,12"},
		{13, slices.Repeat([]int{1, 12, 0, 0, 0, 5}, 4), "13:0,0,0,0,0,1;1,12,0,0,0,5"},
		{13, append(make([]int, 23), 1), ""},
		{13, slices.Repeat([]int{1, 2, 3, 4, 5, 6, 7}, 3), ""},
	}
	for _, x := range list {
		if got, ok := impl.ShortestRec(x.p, x.s); ok != (x.text != "") || impl.RecText(got) != x.text {
			t.Error("by", x.p, "the shortest of", x.s, "is", impl.RecText(got), ok)
		}
	}
}

// growth counts what the orders do from one number to the next one.
type growth struct {
	grown int // they become greater
	twice int // and so they did at the last number but one, which is the last one at which they could
	kept  int // they stay though the number is not the one that follows, since they are more than half
}

func (g *growth) count(p int, s []int, orders []int) {
	for i := 1; i < len(s); i++ {
		if orders[i] > orders[i-1] {
			g.grown++
			if i > 2 && orders[i-2] > orders[i-3] {
				g.twice++
			}
			continue
		}
		if r, ok := shortestOf(p, s[:i], orders[i-1]); ok && numbersOf(r, i+1)[i] != s[i] {
			g.kept++
		}
	}
}

// shortestOf is the recurrence of a beginning whose order is known, if it is valid.
func shortestOf(p int, s []int, order int) (impl.Rec, bool) {
	if order > maxOrder {
		return impl.Rec{}, false
	}
	return impl.ShortestRec(p, s)
}

func TestP20OrdersGrowInOneWay(t *testing.T) {
	var g growth
	eachStart(func(p int, s []int) {
		orders := impl.OrdersOf(p, s)
		if want := ordersBy(p, s); !slices.Equal(orders, want) {
			t.Fatal("by", p, "the orders of", s, "are", orders, "not", want)
		}
		last := 0
		for before, order := range orders {
			if order != last && (order != before+1-last || last > before/2) {
				t.Fatal("by", p, "the orders of", s, "are", orders, "which grow in another way at", before)
			}
			r, ok := impl.ShortestRec(p, s[:before+1])
			if ok != (order <= maxOrder) || ok && len(r.First) != order {
				t.Fatal("by", p, "the orders of", s, "are", orders, "but the shortest of", before+1, "is", r, ok)
			}
			last = order
		}
		g.count(p, s, orders)
	})
	if g.grown < 500 || g.twice < 500 || g.kept < 500 {
		t.Fatal("too few of one kind:", g)
	}
}

func TestP20OrdersOfBeginnings(t *testing.T) {
	eachStart(func(p int, s []int) {
		orders := impl.OrdersOf(p, s)
		for many := range len(s) + 1 {
			if got := impl.OrdersOf(p, s[:many]); !slices.Equal(got, orders[:many]) {
				t.Fatal("by", p, "the orders of", s, "are", orders, "and those of the first", many, got)
			}
		}
	})
}

// TestP20OrdersThatGrowAgainAndAgain makes beginnings whose orders grow as often as they can: at each number behind as many as the order twice, this is not the one that follows.
func TestP20OrdersThatGrowAgainAndAgain(t *testing.T) {
	c := &chance{state: 54}
	for _, p := range primes {
		for range 20 {
			var s, want []int
			for before := range maxTerms {
				order := 0
				for before > 0 && !solvable(p, s, order) {
					order++
				}
				next := c.below(p)
				if 2*order == before {
					for solvable(p, append(slices.Clone(s), next), order) {
						next = (next + 1) % p
					}
				}
				s = append(s, next)
				want = append(want, before/2+1)
			}
			if got := impl.OrdersOf(p, s); !slices.Equal(got, want) {
				t.Fatal("by", p, "the orders of", s, "are", got, "not", want)
			}
		}
	}
}

func TestOrdersExamples(t *testing.T) {
	list := []struct {
		p    int
		s    []int
		want []int
	}{
		{7, nil, nil},
		{7, []int{0}, []int{0}},
		{7, []int{3}, []int{1}},
		{7, []int{0, 1, 1, 2, 3, 5}, []int{0, 2, 2, 2, 2, 2}},
		{7, []int{0, 1, 1, 2, 3, 6}, []int{0, 2, 2, 2, 2, 4}},
		{7, []int{0, 1, 1, 2, 3, 6, 1, 1, 1}, []int{0, 2, 2, 2, 2, 4, 4, 4, 5}},
		{7, []int{1, 1, 1, 0}, []int{1, 1, 1, 3}},
		{7, []int{1, 2, 4, 1}, []int{1, 1, 1, 1}},
		{7, []int{1, 2, 3, 4}, []int{1, 1, 2, 2}},
		{7, []int{1, 0, 0, 0, 0, 0}, []int{1, 1, 1, 1, 1, 1}},
		{7, []int{1, 0, 0, 0, 0, 1}, []int{1, 1, 1, 1, 1, 5}},
		{7, []int{0, 0, 0, 4}, []int{0, 0, 0, 4}},
		{7, []int{0, 0, 0, 4, 4, 1, 3, 2}, []int{0, 0, 0, 4, 4, 4, 4, 4}},
		{2, []int{1, 1, 0, 1, 0, 0, 0, 1}, []int{1, 1, 2, 2, 3, 3, 4, 4}},
		{2, []int{1, 0, 1, 1, 1, 0}, []int{1, 1, 2, 2, 3, 3}},
		{2, []int{0, 0, 1, 1, 0, 1, 1, 0, 1, 1}, []int{0, 0, 3, 3, 3, 3, 3, 3, 3, 3}},
		{13, []int{12, 1, 12, 1, 0}, []int{1, 1, 1, 1, 4}},
		{13, append(make([]int, 23), 12), append(make([]int, 23), 24)},
		{13, append([]int{12}, make([]int, 23)...), slices.Repeat([]int{1}, 24)},
		{13, append(slices.Repeat([]int{5}, 23), 0), append(slices.Repeat([]int{1}, 23), 23)},
	}
	for _, x := range list {
		if got := impl.OrdersOf(x.p, x.s); !slices.Equal(got, x.want) {
			t.Error("by", x.p, "the orders of", x.s, "are", got, "not", x.want)
		}
	}
}

// TestP24SureGuessesAreRight gives guesses for all recurrences with at most so many numbers in First.
func TestP24SureGuessesAreRight(t *testing.T) {
	check := func(r impl.Rec, order int) {
		t.Helper()
		stream := numbersOf(r, maxTerms+1)
		for many := 2 * order; many <= maxTerms; many++ {
			if got, sure := impl.GuessOf(r.Prime, stream[:many], order); got != stream[many] || !sure {
				t.Fatal("with", order, "after", many, "of", r, "the guess is", got, sure)
			}
		}
		for many := range 2 * order {
			if got, sure := impl.GuessOf(r.Prime, stream[:many], order); sure {
				t.Fatal("with", order, "after", many, "of", r, "the guess is", got, sure)
			}
		}
	}
	for _, small := range []struct{ p, most int }{{2, 4}, {3, 2}, {5, 1}, {7, 1}, {11, 1}, {13, 1}} {
		for order := range small.most + 1 {
			for _, r := range smallRecs(small.p, order) {
				check(r, order)
			}
		}
	}
	eachRec(func(r impl.Rec) {
		for order := len(r.First); order <= maxOrder; order++ {
			check(r, order)
		}
	})
}

// TestP24WithOneFewerTheyCanGoOnOtherwise has, for each order, two streams that part just behind twice as many numbers less one.
func TestP24WithOneFewerTheyCanGoOnOtherwise(t *testing.T) {
	for _, p := range primes {
		for order := 1; order <= maxOrder; order++ {
			a := impl.Rec{Prime: p, Times: make([]int, order), First: power(order-1, 1)}
			b := impl.Rec{Prime: p, Times: power(order-1, 1), First: power(order-1, 1)}
			many := 2*order - 1
			one, two := numbersOf(a, many+2), numbersOf(b, many+2)
			if !slices.Equal(one[:many], two[:many]) || one[many] == two[many] {
				t.Fatal("these do not part at", many, a, b)
			}
			if got, sure := impl.GuessOf(p, one[:many], order); got != one[many] || sure {
				t.Fatal("by", p, "with", order, "after", one[:many], "the guess is", got, sure)
			}
			for _, s := range [][]int{one, two} {
				if got, sure := impl.GuessOf(p, s[:many+1], order); got != s[many+1] || !sure {
					t.Fatal("by", p, "with", order, "after", s[:many+1], "the guess is", got, sure)
				}
			}
		}
	}
}

func TestP24GuessesFollowTheShortestOne(t *testing.T) {
	sureOnes, refused := 0, 0
	eachStart(func(p int, s []int) {
		least := lastOrder(ordersBy(p, s))
		r, _ := shortestOf(p, s, least)
		for order := range maxOrder + 1 {
			got, sure := impl.GuessOf(p, s, order)
			if least > order {
				refused++
				if got != -1 || sure {
					t.Fatal("by", p, "with", order, "after", s, "the guess is", got, sure)
				}
				continue
			}
			if want := numbersOf(r, len(s)+1)[len(s)]; got != want || sure != (len(s) >= 2*order) {
				t.Fatal("by", p, "with", order, "after", s, "the guess is", got, sure, "not", want)
			}
			if sure {
				sureOnes++
			}
		}
	})
	if sureOnes < 500 || refused < 500 {
		t.Fatal("too few of one kind:", sureOnes, refused)
	}
}

func TestGuessExamples(t *testing.T) {
	list := []struct {
		p, order int
		s        []int
		want     int
		sure     bool
	}{
		{7, 0, nil, 0, true},
		{7, 1, nil, 0, false},
		{7, 6, nil, 0, false},
		{7, 0, []int{0}, 0, true},
		{7, 0, []int{1}, -1, false},
		{7, 0, make([]int, 24), 0, true},
		{7, 1, []int{3}, 0, false},
		{7, 1, []int{3, 3}, 3, true},
		{7, 1, []int{3, 6, 5}, 3, true},
		{7, 1, []int{3, 6, 6}, -1, false},
		{7, 2, []int{0, 1, 1, 2}, 3, true},
		{7, 2, []int{0, 1, 1}, 1, false},
		{7, 1, []int{0, 1, 1, 2}, -1, false},
		{7, 3, []int{0, 1, 1, 2, 3, 5}, 1, true},
		{7, 4, []int{0, 1, 1, 2, 3, 5}, 1, false},
		{7, 1, []int{0, 1, 1, 2, 3, 5}, -1, false},
		{7, 0, []int{0, 1, 1, 2, 3, 5}, -1, false},
		{2, 6, slices.Repeat([]int{0, 0, 0, 0, 0, 1}, 2), 0, true},
		{2, 6, slices.Repeat([]int{0, 0, 0, 0, 0, 1}, 2)[:11], 0, false},
		{2, 6, slices.Repeat([]int{0, 0, 0, 0, 0, 1}, 3)[:17], 1, true},
		{2, 5, slices.Repeat([]int{0, 0, 0, 0, 0, 1}, 2), -1, false},
		{13, 6, slices.Repeat([]int{12, 0, 1, 5, 7, 2}, 4), 12, true},
		{13, 6, slices.Repeat([]int{12, 0, 1, 5, 7, 2}, 4)[:23], 2, true},
		{13, 6, append(make([]int, 6), 1), -1, false},
		{13, 6, append(make([]int, 23), 1), -1, false},
	}
	for _, x := range list {
		if got, sure := impl.GuessOf(x.p, x.s, x.order); got != x.want || sure != x.sure {
			t.Error("by", x.p, "with", x.order, "after", x.s, "the guess is", got, sure)
		}
	}
}

func TestGuessesOfOtherOrders(t *testing.T) {
	defer mustPanicNot(t, "an order of GuessOf")
	for _, p := range primes {
		for _, s := range [][]int{nil, {0}, {1}, {0, 1, 1}, make([]int, maxTerms), slices.Repeat([]int{1}, maxTerms)} {
			for _, order := range noCounts(0, maxOrder) {
				if got, sure := impl.GuessOf(p, s, order); got != -1 || sure {
					t.Fatal("by", p, "with", order, "after", s, "the guess is", got, sure)
				}
			}
		}
	}
}

func TestShortestOfBeginningsThatAreNotValid(t *testing.T) {
	eachBadStart(func(p int, bad []int) {
		defer mustPanicNot(t, "a beginning that is not valid")
		if got, ok := impl.ShortestRec(p, bad); ok || !isNothing(got) {
			t.Fatal("by", p, "the shortest of", bad, "is", got, ok)
		}
		if got := impl.OrdersOf(p, bad); got != nil {
			t.Fatal("by", p, "the orders of", bad, "are", got)
		}
		for order := -1; order <= maxOrder+1; order++ {
			if got, sure := impl.GuessOf(p, bad, order); got != -1 || sure {
				t.Fatal("by", p, "with", order, "after", bad, "the guess is", got, sure)
			}
		}
		for rows := range maxRows + 2 {
			for cols := range maxRows + 2 {
				if got := impl.TableOf(p, bad, rows, cols); got != nil {
					t.Fatal("by", p, "the table of", bad, "with", rows, cols, "is", got)
				}
			}
		}
	})
}
