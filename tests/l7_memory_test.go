package tests

import (
	"slices"
	"testing"

	"loop.example/rationalstreams/impl"
)

// netGiven is what a call is given: two circuits, an input, and a recurrence.
type netGiven struct {
	a, b  impl.Net
	input []int
	r     impl.Rec
}

// netCall is a call of a function with these, and the circuit and the rows that it returns.
type netCall struct {
	name string
	do   func(g netGiven) (impl.Net, [][]int)
}

func netCalls() []netCall {
	return []netCall{
		{"NetValid", func(g netGiven) (impl.Net, [][]int) { impl.NetValid(g.a); return impl.Net{}, nil }},
		{"NetRegs", func(g netGiven) (impl.Net, [][]int) { impl.NetRegs(g.a); return impl.Net{}, nil }},
		{"NetRun", func(g netGiven) (impl.Net, [][]int) { return impl.Net{}, [][]int{impl.NetRun(g.a, g.input)} }},
		{"NetStream", func(g netGiven) (impl.Net, [][]int) { return impl.Net{}, rowsOf(impl.NetStream(g.a)) }},
		{"NetPart", func(g netGiven) (impl.Net, [][]int) {
			return impl.Net{}, [][]int{impl.NetPart(g.a, len(g.input)), impl.NetPart(g.a, maxTerms)}
		}},
		{"NetOf", func(g netGiven) (impl.Net, [][]int) { return impl.NetOf(g.r), nil }},
		{"NetThen", func(g netGiven) (impl.Net, [][]int) { return onlyNet(impl.NetThen(g.a, g.b)) }},
		{"NetSide", func(g netGiven) (impl.Net, [][]int) { return onlyNet(impl.NetSide(g.a, g.b)) }},
	}
}

func onlyNet(n impl.Net, _ bool) (impl.Net, [][]int) {
	return n, nil
}

// roomyNet has room behind its nodes, which an append would write to.
func roomyNet(n impl.Net) impl.Net {
	return impl.Net{Prime: n.Prime, Nodes: append(make([]impl.Node, 0, len(n.Nodes)+30), n.Nodes...)}
}

func mustBeUntouchedNet(t *testing.T, name string, n, before impl.Net) {
	t.Helper()
	if !sameNet(n, before) {
		t.Fatal(name, "writes to its argument", before, "or shares memory with it:", n)
	}
	for _, node := range n.Nodes[len(n.Nodes):cap(n.Nodes)] {
		if node != (impl.Node{}) {
			t.Fatal(name, "writes behind the nodes of its argument", before)
		}
	}
}

func spoilNodes(nodes []impl.Node) {
	nodes = nodes[:cap(nodes)]
	for i := range nodes {
		nodes[i] = impl.Node{Kind: 1000, A: 1000, B: 1000, Num: 1000}
	}
}

// mustBeOwnNet spoils the result of a call, looks at the arguments, and calls it again.
func mustBeOwnNet(t *testing.T, call netCall, g, before netGiven) {
	t.Helper()
	mustBeSame := func() {
		t.Helper()
		mustBeUntouchedNet(t, call.name, g.a, before.a)
		mustBeUntouchedNet(t, call.name, g.b, before.b)
		mustBeUntouched(t, call.name, g.a.Prime, g.input, before.input)
		mustBeUntouchedRec(t, call.name, g.r, before.r)
	}
	n, rows := call.do(g)
	mustBeSame()
	kept, keptRows := clonedNet(n), cloned(rows)
	spoilNodes(n.Nodes)
	mustBeApart(t, call.name, slices.Clone(rows))
	mustBeSame()
	again, rowsAgain := call.do(g)
	if !sameNet(again, kept) || !equal(rowsAgain, keptRows) {
		t.Fatal(call.name, "of", g, "is", again, rowsAgain, "the second time, not", kept, keptRows)
	}
}

func TestCircuitsAreNeitherWrittenToNorShared(t *testing.T) {
	c := &chance{state: 107}
	calls := netCalls()
	eachTwoNets(func(a, b impl.Net) {
		before := netGiven{a, b, c.row(a.Prime, c.below(maxTerms+1)), c.rec(a.Prime, c.below(maxOrder+1))}
		for _, call := range calls {
			mustBeOwnNet(t, call, netGiven{roomyNet(a), roomyNet(b), roomy(before.input), roomyRec(before.r)}, before)
			one, same := roomyNet(a), before
			same.b = a
			mustBeOwnNet(t, call, netGiven{one, one, roomy(before.input), roomyRec(before.r)}, same)
		}
	})
}

func TestRecurrencesOfCircuitsAreNeitherWrittenToNorShared(t *testing.T) {
	input := impl.Net{Prime: 2, Nodes: []impl.Node{{Kind: ndIn}}}
	eachRec(func(r impl.Rec) {
		for _, call := range netCalls() {
			before := netGiven{input, input, nil, r}
			mustBeOwnNet(t, call, netGiven{roomyNet(input), roomyNet(input), nil, roomyRec(r)}, before)
		}
	})
}

// TestCircuitsThatArePartsOfOneRowOfNodes gives circuits whose nodes lie in the same memory, one behind the other, and one within the other.
func TestCircuitsThatArePartsOfOneRowOfNodes(t *testing.T) {
	c := &chance{state: 108}
	for _, p := range primes {
		for one := 1; one < maxNodes; one++ {
			for two := 1; one+two <= maxNodes; two++ {
				a, b := c.net(p, one, min(one, 3)), c.net(p, two, min(two, 3))
				all := slices.Concat(a.Nodes, b.Nodes, make([]impl.Node, 10))
				before := slices.Clone(all)
				first, second := impl.Net{Prime: p, Nodes: all[:one]}, impl.Net{Prime: p, Nodes: all[one : one+two]}
				got, ok := impl.NetThen(first, second)
				if !ok || !sameNet(got, thenBy(a, b)) || !slices.Equal(all, before) {
					t.Fatal("one behind the other", a, b, "are", got, ok)
				}
				spoilNodes(got.Nodes)
				got, ok = impl.NetSide(first, second)
				if ok != (one+two < maxNodes) || ok && !sameNet(got, sideBy(a, b)) || !slices.Equal(all, before) {
					t.Fatal("side by side", a, b, "are", got, ok)
				}
				spoilNodes(got.Nodes)
				input := impl.Net{Prime: p, Nodes: all[one+two : one+two+1]}
				got, ok = impl.NetThen(impl.Net{Prime: p, Nodes: all[:one]}, input)
				if !ok || len(got.Nodes) != one+1 || !slices.Equal(all, before) {
					t.Fatal("behind", a, "its input is", got, ok)
				}
			}
		}
	}
}
