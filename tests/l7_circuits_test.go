package tests

import (
	"slices"
	"testing"

	"loop.example/rationalstreams/impl"
)

func TestCircuitConstants(t *testing.T) {
	if impl.MaxNodes != maxNodes || impl.MaxRegs != maxRegs {
		t.Error("bounds", impl.MaxNodes, impl.MaxRegs)
	}
	if impl.NdIn != ndIn || impl.NdAdd != ndAdd || impl.NdMore != ndMore || impl.NdReg != ndReg {
		t.Error("kinds", impl.NdIn, impl.NdAdd, impl.NdMore, impl.NdReg)
	}
}

func TestP87RegistersAreNodes(t *testing.T) {
	most, none, all := 0, 0, 0
	eachNet(func(n impl.Net) {
		if !impl.NetValid(n) {
			t.Fatal("not valid:", n)
		}
		got := impl.NetRegs(n)
		if got != len(registersOf(n)) || got > len(n.Nodes) || got > maxRegs {
			t.Fatal("the registers of", n, "are", got)
		}
		switch got {
		case 0:
			none++
		case maxRegs:
			most++
		}
		if got == len(n.Nodes) {
			all++
		}
	})
	if most < 100 || none < 100 || all < 100 {
		t.Fatal("too few of one kind:", most, none, all)
	}
}

func TestP87JustMaxRegsAndOneMore(t *testing.T) {
	c := &chance{state: 94}
	for _, p := range primes {
		for nodes := 1; nodes <= maxNodes+2; nodes++ {
			for registers := range nodes + 1 {
				n := c.net(p, nodes, registers)
				want, valid := -1, nodes <= maxNodes && registers <= maxRegs
				if valid {
					want = registers
				}
				if got := impl.NetRegs(n); got != want || impl.NetValid(n) != valid {
					t.Fatal("of", nodes, "nodes with", registers, "registers it is told that these are", got)
				}
			}
		}
	}
}

func TestP86CircuitsCanBeLedOn(t *testing.T) {
	just := 0
	eachNet(func(n impl.Net) {
		nodes := len(n.Nodes)
		for _, num := range []int{0, 1, n.Prime - 1} {
			on, itself := clonedNet(n), clonedNet(n)
			on.Nodes = append(on.Nodes, impl.Node{Kind: ndMore, A: nodes - 1, Num: num})
			itself.Nodes = append(itself.Nodes, impl.Node{Kind: ndMore, A: nodes, Num: num})
			if impl.NetValid(on) != (nodes < maxNodes) || impl.NetValid(itself) {
				t.Fatal("led on by", num, "it is valid", impl.NetValid(on), "and with itself", impl.NetValid(itself), n)
			}
			if nodes == maxNodes {
				just++
				continue
			}
			input := countFrom(0, maxTerms)
			for i := range input {
				input[i] %= n.Prime
			}
			mustGive(t, on, input, timesEach(n.Prime, ranBy(n, input), num))
		}
	})
	if just < 100 {
		t.Fatal("too few circuits with just as many nodes as can be:", just)
	}
}

// timesEach is each number of a row so many times.
func timesEach(p int, row []int, times int) []int {
	list := slices.Clone(row)
	for i := range list {
		list[i] = list[i] * times % p
	}
	return list
}

// TestSmallCircuitsAreValidJustAsTheDocumentSays has all nodes with numbers from just below to just above the right ones.
func TestSmallCircuitsAreValidJustAsTheDocumentSays(t *testing.T) {
	for _, small := range []struct{ p, nodes int }{{2, 1}, {3, 1}, {2, 2}} {
		var each []impl.Node
		for kind := -1; kind <= ndReg+1; kind++ {
			for a := -1; a <= small.nodes; a++ {
				for b := -1; b <= small.nodes; b++ {
					for num := -1; num <= small.p; num++ {
						each = append(each, impl.Node{Kind: kind, A: a, B: b, Num: num})
					}
				}
			}
		}
		valid := 0
		for _, first := range each {
			n := impl.Net{Prime: small.p, Nodes: []impl.Node{first}}
			seconds := []impl.Node{first}
			if small.nodes == 2 {
				n.Nodes = append(n.Nodes, first)
				seconds = each
			}
			for _, n.Nodes[small.nodes-1] = range seconds {
				want := isNet(n)
				if impl.NetValid(n) != want {
					t.Fatal("valid it is", !want, n)
				}
				if want {
					valid++
				}
			}
		}
		if want := len(smallNets(small.p, small.nodes)); valid != want {
			t.Fatal("valid are", valid, "not", want)
		}
	}
}

// TestCircuitsWithAnotherNode changes one number of one node of valid circuits.
func TestCircuitsWithAnotherNode(t *testing.T) {
	c := &chance{state: 95}
	still, lost := 0, 0
	for _, p := range primes {
		for nodes := 1; nodes <= maxNodes; nodes++ {
			for registers := range min(nodes, maxRegs) + 1 {
				for range 10 {
					n := c.net(p, nodes, registers)
					node := &n.Nodes[c.below(nodes)]
					number := []*int{&node.Kind, &node.A, &node.B, &node.Num}[c.below(4)]
					*number = c.below(max(nodes, 5)+2) - 1
					want := isNet(n)
					if impl.NetValid(n) != want {
						t.Fatal("valid it is", !want, n)
					}
					if want {
						still++
					} else {
						lost++
					}
				}
			}
		}
	}
	if still < 1000 || lost < 1000 {
		t.Fatal("too few of one kind:", still, lost)
	}
}

func TestP32CircuitsGiveAProductAndWhatTheyGiveForNothing(t *testing.T) {
	c := &chance{state: 96}
	eachNet(func(n impl.Net) {
		p := n.Prime
		part, less := impl.NetPart(n, maxTerms), forNothing(n, maxTerms)
		mustGive(t, n, make([]int, maxTerms), less)
		input := c.row(p, maxTerms)
		want := sumsOf(p, seriesProduct(p, input, part), less)
		mustGive(t, n, input, want)
		many := c.below(maxTerms)
		mustGive(t, n, input[:many], want[:many])
		if many > 0 && !slices.Equal(impl.SeriesTimes(p, input, part), seriesProduct(p, input, part)) {
			t.Fatal("by", p, "the product of", input, part, "is", impl.SeriesTimes(p, input, part))
		}
	})
}

// TestP32WhatNodesAre holds what circuits give against what each node is at each step.
func TestP32WhatNodesAre(t *testing.T) {
	c := &chance{state: 97}
	eachNet(func(n impl.Net) {
		for _, many := range []int{0, 1, c.below(maxTerms), maxTerms} {
			input := c.row(n.Prime, many)
			mustGive(t, n, input, ranBy(n, input))
		}
	})
}

// TestP32LongerInputsChangeNothingBefore cuts an input after each number.
func TestP32LongerInputsChangeNothingBefore(t *testing.T) {
	c := &chance{state: 98}
	for _, p := range primes {
		for nodes := 1; nodes <= maxNodes; nodes += 4 {
			for registers := range min(nodes, maxRegs) + 1 {
				for _, n := range c.netsBy(p, nodes, registers) {
					input := c.row(p, maxTerms)
					whole := ranBy(n, input)
					for many := range maxTerms + 1 {
						mustGive(t, n, input[:many], whole[:many])
					}
				}
			}
		}
	}
}

func TestP88PartsHaveShortRecurrencesToo(t *testing.T) {
	just, none := 0, 0
	eachNet(func(n impl.Net) {
		part := impl.NetPart(n, maxTerms)
		if want := partBy(n, maxTerms); !slices.Equal(part, want) {
			t.Fatal("the part of", n, "is", part, "not", want)
		}
		registers := len(registersOf(n))
		orders := impl.OrdersOf(n.Prime, part)
		if len(orders) != maxTerms || orders[maxTerms-1] > registers+1 {
			t.Fatal("the orders of the part of", n, "are", orders)
		}
		for many := range maxTerms + 1 {
			if got := impl.NetPart(n, many); !slices.Equal(got, part[:many]) {
				t.Fatal(many, "numbers of the part of", n, "are", got, "not", part)
			}
		}
		if orders[maxTerms-1] == registers+1 && registers == maxRegs {
			just++
		}
		if isZero(part) {
			none++
		}
	})
	if just < 5 || none < 100 {
		t.Fatal("too few of one kind:", just, none)
	}
}

func TestPartsOfOtherNumbersThanAreThere(t *testing.T) {
	defer mustPanicNot(t, "a part of no right number of numbers")
	c := &chance{state: 99}
	for _, p := range primes {
		for registers := range maxRegs + 1 {
			n := c.net(p, maxRegs+1, registers)
			for _, many := range noCounts(0, maxTerms) {
				if got := impl.NetPart(n, many); got != nil {
					t.Fatal(many, "numbers of a part are", got)
				}
			}
		}
	}
}

func TestInputsThatAreNotValid(t *testing.T) {
	defer mustPanicNot(t, "an input that is not valid")
	c := &chance{state: 100}
	for _, p := range primes {
		nets := []impl.Net{{Prime: p, Nodes: []impl.Node{{Kind: ndIn}}}, {Prime: p, Nodes: []impl.Node{{Kind: ndReg, Num: 1}}}, c.net(p, maxNodes, maxRegs), netBy(c.rec(p, maxOrder))}
		for _, bad := range badBeginnings(p) {
			for _, n := range nets {
				if got := impl.NetRun(n, bad); got != nil {
					t.Fatal("for", bad, "the circuit", n, "gives", got)
				}
			}
		}
		for _, a := range noNumbers(p) {
			for place := range maxTerms {
				bad := c.row(p, maxTerms)
				bad[place] = a
				for _, n := range nets {
					if got := impl.NetRun(n, bad); got != nil {
						t.Fatal("for", bad, "the circuit", n, "gives", got)
					}
				}
			}
		}
	}
}

func TestP33FewRegistersMakeShortRecurrences(t *testing.T) {
	nothing, just, fewer := 0, 0, 0
	eachNet(func(n impl.Net) {
		registers := len(registersOf(n))
		less := forNothing(n, maxTerms)
		r := impl.NetStream(n)
		if !impl.RecValid(r) || r.Prime != n.Prime || len(r.First) > registers {
			t.Fatal("the stream of", n, "is", r)
		}
		// The order of so many numbers and of any more is the same, and the one recurrence that has it is told by them.
		if want := lastOrder(ordersBy(n.Prime, less)); len(r.First) != want || !slices.Equal(numbersOf(r, maxTerms), less) {
			t.Fatal("the stream of", n, "is", r, "but it gives", less)
		}
		shortest, ok := impl.ShortestRec(n.Prime, less[:2*registers+2])
		if !ok || !sameRec(shortest, r) {
			t.Fatal("the stream of", n, "is", r, "not", shortest)
		}
		switch {
		case len(r.First) == 0:
			nothing++
		case len(r.First) < registers:
			fewer++
		case registers == maxRegs:
			just++
		}
	})
	if nothing < 100 || just < 50 || fewer < 100 {
		t.Fatal("too few of one kind:", nothing, just, fewer)
	}
}

func TestP34RecurrencesHaveCircuits(t *testing.T) {
	c := &chance{state: 101}
	eachRec(func(r impl.Rec) {
		n := impl.NetOf(r)
		if !sameNet(n, netBy(r)) || !impl.NetValid(n) || impl.NetRegs(n) != len(r.First) {
			t.Fatal("the circuit of", r, "is", n)
		}
		want := numbersOf(r, maxTerms)
		for _, many := range []int{0, 1, c.below(maxTerms), maxTerms} {
			mustGive(t, n, make([]int, many), want[:many])
			mustGive(t, n, c.row(r.Prime, many), want[:many])
		}
		if part := impl.NetPart(n, maxTerms); len(part) != maxTerms || !isZero(part) {
			t.Fatal("the part of", n, "is", part)
		}
		stream, least := impl.NetStream(n), impl.RecLeast(r)
		order := lastOrder(ordersBy(r.Prime, want))
		if !sameRec(stream, least) || len(stream.First) != order || !slices.Equal(numbersOf(stream, maxTerms), want) {
			t.Fatal("the stream of", n, "is", stream, "but the shortest one of", r, "is", least)
		}
	})
}

func TestRecurrencesWithoutCircuits(t *testing.T) {
	eachBadRec(func(bad impl.Rec) {
		defer mustPanicNot(t, "a recurrence that is not valid")
		if got := impl.NetOf(bad); !isNoNet(got) {
			t.Fatal("the circuit of", bad, "is", got)
		}
	})
}

// fitTogether tells whether so many nodes more than both circuits have, and their registers, are valid together.
func fitTogether(a, b impl.Net, more int) bool {
	return len(a.Nodes)+len(b.Nodes)+more <= maxNodes && len(registersOf(a))+len(registersOf(b)) <= maxRegs
}

// pairKinds counts pairs of circuits with just as many nodes or registers as are valid together, and with one more.
type pairKinds struct {
	justNodes, moreNodes, justRegs, moreRegs int
	none, once, often                        int
}

func (k *pairKinds) count(a, b impl.Net, more int) {
	nodes, registers := len(a.Nodes)+len(b.Nodes)+more, len(registersOf(a))+len(registersOf(b))
	switch {
	case nodes == maxNodes && registers <= maxRegs:
		k.justNodes++
	case nodes == maxNodes+1 && registers <= maxRegs:
		k.moreNodes++
	}
	switch {
	case registers == maxRegs && nodes <= maxNodes:
		k.justRegs++
	case registers == maxRegs+1 && nodes <= maxNodes:
		k.moreRegs++
	}
	switch inputsOf(b) {
	case 0:
		k.none++
	case 1:
		k.once++
	default:
		k.often++
	}
}

func (k *pairKinds) mustBeMany(t *testing.T) {
	t.Helper()
	if min(k.justNodes, k.moreNodes, k.justRegs, k.moreRegs, k.none, k.once, k.often) < 50 {
		t.Fatal("too few of one kind:", *k)
	}
}

func TestP35OneBehindTheOtherMultiplies(t *testing.T) {
	c := &chance{state: 102}
	kinds := &pairKinds{}
	eachTwoNets(func(a, b impl.Net) {
		p := a.Prime
		kinds.count(a, b, 0)
		then, ok := impl.NetThen(a, b)
		if ok != fitTogether(a, b, 0) || !ok && !isNoNet(then) {
			t.Fatal("behind", a, "the circuit", b, "is", then, ok)
		}
		if !ok {
			return
		}
		if !sameNet(then, thenBy(a, b)) || !impl.NetValid(then) {
			t.Fatal("behind", a, "the circuit", b, "is", then)
		}
		for _, input := range [][]int{make([]int, maxTerms), c.row(p, maxTerms), c.row(p, c.below(maxTerms))} {
			mustGive(t, then, input, ranBy(b, ranBy(a, input)))
		}
		want := seriesProduct(p, partBy(a, maxTerms), partBy(b, maxTerms))
		if part := impl.NetPart(then, maxTerms); !slices.Equal(part, want) {
			t.Fatal("the part of", then, "is", part, "not", want)
		}
	})
	kinds.mustBeMany(t)
}

func TestP36SideBySideAdds(t *testing.T) {
	c := &chance{state: 103}
	kinds := &pairKinds{}
	eachTwoNets(func(a, b impl.Net) {
		p := a.Prime
		kinds.count(a, b, 1)
		side, ok := impl.NetSide(a, b)
		if ok != fitTogether(a, b, 1) || !ok && !isNoNet(side) {
			t.Fatal("beside", a, "the circuit", b, "is", side, ok)
		}
		if !ok {
			return
		}
		if !sameNet(side, sideBy(a, b)) || !impl.NetValid(side) {
			t.Fatal("beside", a, "the circuit", b, "is", side)
		}
		for _, input := range [][]int{make([]int, maxTerms), c.row(p, maxTerms), c.row(p, c.below(maxTerms))} {
			mustGive(t, side, input, sumsOf(p, ranBy(a, input), ranBy(b, input)))
		}
	})
	kinds.mustBeMany(t)
}

// TestCircuitsOfAllNumbersOfNodesTogether has each pair of numbers of nodes.
func TestCircuitsOfAllNumbersOfNodesTogether(t *testing.T) {
	c := &chance{state: 104}
	for _, p := range primes {
		for one := 1; one <= maxNodes+1; one++ {
			for two := 1; two <= maxNodes+1; two++ {
				a, b := c.net(p, one, 0), c.net(p, two, 0)
				then, ok := impl.NetThen(a, b)
				if ok != (one+two <= maxNodes) || ok && len(then.Nodes) != one+two || !ok && !isNoNet(then) {
					t.Fatal("with", one, "and", two, "nodes one behind the other it is", then, ok)
				}
				side, ok := impl.NetSide(a, b)
				if ok != (one+two+1 <= maxNodes) || ok && len(side.Nodes) != one+two+1 || !ok && !isNoNet(side) {
					t.Fatal("with", one, "and", two, "nodes side by side it is", side, ok)
				}
			}
		}
	}
}

// TestCircuitsOfAllNumbersOfRegistersTogether has each pair of numbers of registers.
func TestCircuitsOfAllNumbersOfRegistersTogether(t *testing.T) {
	c := &chance{state: 105}
	for _, p := range primes {
		for one := range maxRegs + 2 {
			for two := range maxRegs + 2 {
				a, b := c.net(p, maxRegs+2, one), c.net(p, maxRegs+2, two)
				then, thenOk := impl.NetThen(a, b)
				side, sideOk := impl.NetSide(a, b)
				want := one+two <= maxRegs
				if thenOk != want || sideOk != want || !want && (!isNoNet(then) || !isNoNet(side)) {
					t.Fatal("with", one, "and", two, "registers it is", then, thenOk, side, sideOk)
				}
				if want && (impl.NetRegs(then) != one+two || impl.NetRegs(side) != one+two) {
					t.Fatal("with", one, "and", two, "registers it is", then, side)
				}
			}
		}
	}
}

func TestCircuitsThatAreNotValid(t *testing.T) {
	eachBadNet(func(bad impl.Net) {
		defer mustPanicNot(t, "a circuit that is not valid")
		if impl.NetValid(bad) || impl.NetRegs(bad) != -1 {
			t.Fatal("valid:", bad, "with registers", impl.NetRegs(bad))
		}
		for _, input := range [][]int{nil, {0}, {1}, {0, 1}, make([]int, maxTerms)} {
			if got := impl.NetRun(bad, input); got != nil {
				t.Fatal("for", input, "the circuit", bad, "gives", got)
			}
		}
		if r := impl.NetStream(bad); !isNothing(r) {
			t.Fatal("the stream of", bad, "is", r)
		}
		for _, many := range []int{-1, 0, 1, maxTerms, maxTerms + 1} {
			if got := impl.NetPart(bad, many); got != nil {
				t.Fatal(many, "numbers of the part of", bad, "are", got)
			}
		}
	})
}

// mustRefuseNets gives two circuits of which one is not valid, or which are not for the same prime.
func mustRefuseNets(t *testing.T, a, b impl.Net) {
	t.Helper()
	defer mustPanicNot(t, "two circuits that are not valid together")
	then, thenOk := impl.NetThen(a, b)
	side, sideOk := impl.NetSide(a, b)
	if thenOk || sideOk || !isNoNet(then) || !isNoNet(side) {
		t.Fatal("of", a, b, "one behind the other is", then, thenOk, "side by side", side, sideOk)
	}
}

func TestTwoCircuitsOfWhichOneIsNotValid(t *testing.T) {
	eachBadNet(func(bad impl.Net) {
		for _, nodes := range [][]impl.Node{{{Kind: ndIn}}, {{Kind: ndReg, Num: 1}}} {
			good := impl.Net{Prime: 7, Nodes: nodes}
			if slices.Contains(primes, bad.Prime) {
				good.Prime = bad.Prime
			}
			mustRefuseNets(t, bad, good)
			mustRefuseNets(t, good, bad)
		}
		mustRefuseNets(t, bad, bad)
	})
	// These would be right at the place at which they would stand behind another one.
	for _, p := range primes {
		two := impl.Net{Prime: p, Nodes: []impl.Node{{Kind: ndIn}, {Kind: ndIn}}}
		for _, node := range []impl.Node{{Kind: ndMore, A: -1, Num: 1}, {Kind: ndAdd, A: -1, B: -2}, {Kind: ndReg, A: -1}, {Kind: ndReg, A: -2, Num: 1}} {
			mustRefuseNets(t, two, impl.Net{Prime: p, Nodes: []impl.Node{node}})
		}
		// And this one has no node of its own as its last one.
		mustRefuseNets(t, two, impl.Net{Prime: p})
		mustRefuseNets(t, impl.Net{Prime: p}, two)
		// The first one would find its node in the second one.
		mustRefuseNets(t, impl.Net{Prime: p, Nodes: []impl.Node{{Kind: ndReg, A: 1}}}, two)
	}
}

func TestTwoCircuitsOfDifferentPrimes(t *testing.T) {
	c := &chance{state: 106}
	for _, p := range primes {
		for _, q := range primes {
			if p == q {
				continue
			}
			for registers := range 4 {
				// All numbers are valid for both primes.
				mustRefuseNets(t, changedPrime(c.net(2, 6, registers), p), changedPrime(c.net(2, 6, registers), q))
			}
			mustRefuseNets(t, impl.Net{Prime: p, Nodes: []impl.Node{{Kind: ndIn}}}, impl.Net{Prime: q, Nodes: []impl.Node{{Kind: ndIn}}})
		}
	}
}

func changedPrime(n impl.Net, p int) impl.Net {
	return impl.Net{Prime: p, Nodes: n.Nodes}
}
