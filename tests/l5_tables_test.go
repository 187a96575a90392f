package tests

import (
	"slices"
	"testing"

	"loop.example/rationalstreams/impl"
)

func TestP81TablesAreTheSameTurned(t *testing.T) {
	eachStart(func(p int, s []int) {
		for rows := 1; rows <= maxRows; rows++ {
			for cols := 1; cols <= maxRows; cols++ {
				got := impl.TableOf(p, s, rows, cols)
				if rows+cols-1 > len(s) {
					if got != nil {
						t.Fatal("by", p, "the table of", s, "with", rows, cols, "is", got)
					}
					continue
				}
				if !equal(got, tableBy(s, rows, cols)) || !equal(got, turned(impl.TableOf(p, s, cols, rows))) {
					t.Fatal("by", p, "the table of", s, "with", rows, cols, "is", got)
				}
			}
		}
	})
}

// TestP81TablesWithJustAsManyNumbersAndWithOneFewer has tables of all sizes.
func TestP81TablesWithJustAsManyNumbersAndWithOneFewer(t *testing.T) {
	c := &chance{state: 55}
	for _, p := range primes {
		for rows := 1; rows <= maxRows; rows++ {
			for cols := 1; cols <= maxRows; cols++ {
				s := c.row(p, rows+cols-1)
				got := impl.TableOf(p, s, rows, cols)
				if len(got) != rows || !impl.MatValid(p, got) || got[rows-1][cols-1] != s[len(s)-1] || !equal(impl.MatTurn(p, got), impl.TableOf(p, s, cols, rows)) {
					t.Fatal("by", p, "the table of", s, "with", rows, cols, "is", got)
				}
				if got := impl.TableOf(p, s[:len(s)-1], rows, cols); got != nil {
					t.Fatal("by", p, "the table of", s[:len(s)-1], "with", rows, cols, "is", got)
				}
			}
		}
	}
}

func TestTableExamples(t *testing.T) {
	late := zeros(maxRows, maxRows)
	late[maxRows-1][maxRows-1] = 12
	list := []struct {
		p, rows, cols int
		s             []int
		want          [][]int
	}{
		{7, 1, 1, []int{3}, [][]int{{3}}},
		{7, 1, 1, nil, nil},
		{7, 1, 1, []int{3, 4}, [][]int{{3}}},
		{7, 1, 3, []int{3, 4, 5}, [][]int{{3, 4, 5}}},
		{7, 3, 1, []int{3, 4, 5}, [][]int{{3}, {4}, {5}}},
		{7, 1, 4, []int{3, 4, 5}, nil},
		{7, 2, 2, []int{3, 4, 5}, [][]int{{3, 4}, {4, 5}}},
		{7, 2, 3, []int{3, 4, 5}, nil},
		{7, 2, 3, []int{0, 1, 1, 2, 3, 5}, [][]int{{0, 1, 1}, {1, 1, 2}}},
		{7, 3, 4, []int{0, 1, 1, 2, 3, 5}, [][]int{{0, 1, 1, 2}, {1, 1, 2, 3}, {1, 2, 3, 5}}},
		{7, 4, 4, []int{0, 1, 1, 2, 3, 5}, nil},
		{2, 1, 8, slices.Repeat([]int{0, 1}, 4), [][]int{{0, 1, 0, 1, 0, 1, 0, 1}}},
		{2, 1, 8, slices.Repeat([]int{0, 1}, 4)[:7], nil},
		{2, 1, 9, slices.Repeat([]int{0, 1}, 12), nil},
		{2, 9, 1, slices.Repeat([]int{0, 1}, 12), nil},
		{2, 0, 1, slices.Repeat([]int{0, 1}, 12), nil},
		{2, 1, 0, slices.Repeat([]int{0, 1}, 12), nil},
		{2, 0, 0, nil, nil},
		{13, 8, 8, append(make([]int, 14), 12), late},
		{13, 8, 8, make([]int, 14), nil},
	}
	for _, x := range list {
		if got := impl.TableOf(x.p, x.s, x.rows, x.cols); !equal(got, x.want) {
			t.Fatal("by", x.p, "the table of", x.s, "with", x.rows, x.cols, "is", got)
		}
	}
}

func TestTablesOfOtherSizes(t *testing.T) {
	defer mustPanicNot(t, "a size of a table")
	for _, p := range primes {
		for _, s := range [][]int{nil, {0}, {1, 1}, make([]int, 2*maxRows-1), make([]int, maxTerms)} {
			for _, bad := range noCounts(1, maxRows) {
				for _, good := range []int{1, 2, maxRows, bad, -bad} {
					if one, two := impl.TableOf(p, s, bad, good), impl.TableOf(p, s, good, bad); one != nil || two != nil {
						t.Fatal("by", p, "the tables of", s, "with", bad, good, "are", one, two)
					}
				}
			}
		}
	}
}

func TestP21TheRankIsHowLongTheShortestOneIs(t *testing.T) {
	shorter, kept := 0, 0
	check := func(r impl.Rec) {
		t.Helper()
		rank, least := impl.StreamRank(r), impl.RecLeast(r)
		if rank != rankOf(r.Prime, tableBy(numbersOf(r, 2*maxRows-1), maxRows, maxRows)) {
			t.Fatal("the rank of", r, "is", rank)
		}
		if rank != len(least.First) || rank > len(r.First) {
			t.Fatal("the rank of", r, "is", rank, "but its shortest one is", least)
		}
		if rank < len(r.First) {
			shorter++
		} else {
			kept++
		}
	}
	eachRec(check)
	eachTwo(func(a, b impl.Rec) { check(a) })
	if shorter < 500 || kept < 500 {
		t.Fatal("too few of one kind:", shorter, kept)
	}
}

func TestP22AfterTwiceAsManyNumbersThereIsOnlyOne(t *testing.T) {
	check := func(r impl.Rec) {
		t.Helper()
		p, least := r.Prime, impl.RecLeast(r)
		up, low := fracOf(r)
		if !impl.RecValid(least) || !sameRec(least, recBy(reduced(p, up, low))) {
			t.Fatal("the shortest one of", r, "is", least)
		}
		if !impl.RecSame(least, r) || !slices.Equal(numbersOf(least, 60), numbersOf(r, 60)) {
			t.Fatal("the shortest one of", r, "is", least, "which has another stream")
		}
		if again := impl.RecLeast(least); !sameRec(again, least) {
			t.Fatal("the shortest one of", r, "is", least, "and the one of this", again)
		}
		stream := numbersOf(r, maxTerms)
		for many := 2 * len(least.First); many <= maxTerms; many++ {
			if got, ok := impl.ShortestRec(p, stream[:many]); !ok || !sameRec(got, least) {
				t.Fatal("the shortest one of", r, "is", least, "but after", many, "numbers", got, ok)
			}
		}
	}
	eachRec(check)
	eachTwo(func(a, b impl.Rec) { check(a) })
}

// TestP22LongerOnesAreMadeShort makes recurrences longer by a factor of their polynomial, which leaves their streams as they are.
func TestP22LongerOnesAreMadeShort(t *testing.T) {
	c := &chance{state: 56}
	for _, p := range primes {
		for order := range maxOrder + 1 {
			for _, r := range c.recsBy(p, order) {
				least := impl.RecLeast(r)
				for more := range maxOrder - order + 1 {
					long := lengthened(r, append(c.row(p, more), 1))
					if got := impl.RecLeast(long); !sameRec(got, least) || impl.StreamRank(long) != len(least.First) {
						t.Fatal("the shortest one of", long, "is", got, "but that of", r, least)
					}
				}
			}
			zero := impl.Rec{Prime: p, Times: c.row(p, order), First: make([]int, order)}
			if got := impl.RecLeast(zero); !sameRec(got, impl.Rec{Prime: p}) || impl.StreamRank(zero) != 0 || !isZero(impl.TableDets(zero)) {
				t.Fatal("the shortest one of", zero, "is", got)
			}
		}
	}
}

func TestLeastExamples(t *testing.T) {
	list := []struct{ text, want string }{
		{"7:1,1;0,1", "7:1,1;0,1"},
		{"7:2,0,6;0,1,1", "7:1,1;0,1"},
		{"7:3,5;1,1", "7:1;1"},
		{"7:1,1;0,0", "7:;"},
		{"7:;", "7:;"},
		{"2:;", "2:;"},
		{"7:0;0", "7:;"},
		{"7:3;0", "7:;"},
		{"7:0;3", "7:0;3"},
		{"7:0,0;3,0", "7:0;3"},
		{"7:0,0;0,3", "7:0,0;0,3"},
		{"5:1,0;3,3", "5:1;3"},
		{"5:1,0;2,3", "5:1,0;2,3"},
		{"5:0,1;3,3", "5:1;3"},
		{"2:0,1;1,1", "2:1;1"},
		{"2:0,0,0,0,0,1;1,0,1,0,1,0", "2:0,1;1,0"},
		{"2:0,0,0,0,0,1;1,1,0,1,1,0", "2:1,1;1,1"},
		{"2:1,1,1,1,1,1;0,0,0,0,0,0", "2:;"},
		{"13:0,0,0,0,0,12;1,2,3,4,5,6", "13:0,0,0,0,0,12;1,2,3,4,5,6"},
		{"13:0,0,0,0,0,0;0,0,0,0,0,12", "13:0,0,0,0,0,0;0,0,0,0,0,12"},
		{"13:0,0,0,0,0,0;0,0,0,0,12,0", "13:0,0,0,0,0;0,0,0,0,12"},
		{"13:12,12,12,12,12,12;0,0,0,0,0,0", "13:;"},
	}
	for _, x := range list {
		r := mustRead(t, x.text)
		if got := impl.RecLeast(r); impl.RecText(got) != x.want || impl.StreamRank(r) != len(got.First) {
			t.Error("the shortest one of", x.text, "is", impl.RecText(got), "and the rank", impl.StreamRank(r))
		}
	}
}

func TestP23GreaterTablesHaveNoDeterminant(t *testing.T) {
	eachRec(func(r impl.Rec) {
		p, rank, dets := r.Prime, impl.StreamRank(r), impl.TableDets(r)
		if len(dets) != maxRows {
			t.Fatal("the determinants of", r, "are", dets)
		}
		for i, det := range dets {
			rows := i + 1
			if rows > rank && det != 0 || rows == rank && det == 0 {
				t.Fatal("the determinants of", r, "are", dets, "but the rank is", rank)
			}
			want, table := 0, tableBy(numbersOf(r, 2*rows-1), rows, rows)
			if rankOf(p, table) == rows {
				want = byAllWays(p, table)
			}
			if det != want {
				t.Fatal("the determinants of", r, "are", dets, "but with", rows, "rows it is", want)
			}
		}
	})
}

func TestDetsExamples(t *testing.T) {
	list := []struct {
		text string
		want []int
	}{
		{"7:1,1;0,1", []int{0, 6, 0, 0, 0, 0, 0, 0}},
		{"7:1,1;1,1", []int{1, 1, 0, 0, 0, 0, 0, 0}},
		{"7:1,1;0,0", make([]int, 8)},
		{"7:;", make([]int, 8)},
		{"2:;", make([]int, 8)},
		{"7:0;3", []int{3, 0, 0, 0, 0, 0, 0, 0}},
		{"7:3,5;1,1", []int{1, 0, 0, 0, 0, 0, 0, 0}},
		{"7:0,0,0;0,0,2", []int{0, 0, 6, 0, 0, 0, 0, 0}},
		{"2:1,1;1,1", []int{1, 1, 0, 0, 0, 0, 0, 0}},
		{"13:0,0,0,0,0,0;0,0,0,0,0,1", []int{0, 0, 0, 0, 0, 12, 0, 0}},
		{"13:0,0,0,0,0,0;0,0,0,0,0,2", []int{0, 0, 0, 0, 0, 1, 0, 0}},
		{"13:0,0,0,0,0,1;1,0,0,0,0,0", []int{1, 0, 0, 0, 0, 1, 0, 0}},
	}
	for _, x := range list {
		if got := impl.TableDets(mustRead(t, x.text)); !slices.Equal(got, x.want) {
			t.Error("the determinants of", x.text, "are", got)
		}
	}
}

func TestTablesOfRecurrencesThatAreNotValid(t *testing.T) {
	eachBadRec(func(bad impl.Rec) {
		defer mustPanicNot(t, "a recurrence that is not valid")
		if got := impl.StreamRank(bad); got != -1 {
			t.Fatal("the rank of", bad, "is", got)
		}
		if got := impl.RecLeast(bad); !isNothing(got) {
			t.Fatal("the shortest one of", bad, "is", got)
		}
		if got := impl.TableDets(bad); got != nil {
			t.Fatal("the determinants of", bad, "are", got)
		}
	})
}
