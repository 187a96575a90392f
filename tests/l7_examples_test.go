package tests

import (
	"slices"
	"testing"

	"loop.example/rationalstreams/impl"
)

// TestCircuitsWorkedOutByHand has, by 7, what circuits give for the input 1, 2, 3, 4, their parts, and their streams for nothing.
func TestCircuitsWorkedOutByHand(t *testing.T) {
	for _, x := range []struct {
		name       string
		nodes      []impl.Node
		give, part []int
		stream     string
	}{
		{"the input alone", []impl.Node{{Kind: ndIn}},
			[]int{1, 2, 3, 4}, []int{1, 0, 0, 0}, "7:;"},
		{"the input as the last node", []impl.Node{{Kind: ndReg, Num: 5}, {Kind: ndIn}},
			[]int{1, 2, 3, 4}, []int{1, 0, 0, 0}, "7:;"},
		{"the input twice", []impl.Node{{Kind: ndIn}, {Kind: ndIn}, {Kind: ndAdd, A: 0, B: 1}},
			[]int{2, 4, 6, 1}, []int{2, 0, 0, 0}, "7:;"},
		{"a node and itself", []impl.Node{{Kind: ndIn}, {Kind: ndAdd}},
			[]int{2, 4, 6, 1}, []int{2, 0, 0, 0}, "7:;"},
		{"a multiple", []impl.Node{{Kind: ndIn}, {Kind: ndMore, Num: 5}},
			[]int{5, 3, 1, 6}, []int{5, 0, 0, 0}, "7:;"},
		{"a multiple by 0", []impl.Node{{Kind: ndIn}, {Kind: ndMore}},
			[]int{0, 0, 0, 0}, []int{0, 0, 0, 0}, "7:;"},
		{"a register as the last node", []impl.Node{{Kind: ndIn}, {Kind: ndReg, Num: 5}},
			[]int{5, 1, 2, 3}, []int{0, 1, 0, 0}, "7:0;5"},
		{"a register that takes itself", []impl.Node{{Kind: ndReg, Num: 3}},
			[]int{3, 3, 3, 3}, []int{0, 0, 0, 0}, "7:1;3"},
		{"a register of 0 that takes itself", []impl.Node{{Kind: ndReg}},
			[]int{0, 0, 0, 0}, []int{0, 0, 0, 0}, "7:;"},
		{"a register that takes the last node", []impl.Node{{Kind: ndReg, A: 1, Num: 3}, {Kind: ndMore, Num: 2}},
			[]int{6, 5, 3, 6}, []int{0, 0, 0, 0}, "7:2;6"},
		{"a register that takes a node behind it", []impl.Node{{Kind: ndReg, A: 1, Num: 4}, {Kind: ndIn}, {Kind: ndMore, Num: 1}},
			[]int{4, 1, 2, 3}, []int{0, 1, 0, 0}, "7:0;4"},
		{"a register that takes one behind it", []impl.Node{{Kind: ndReg, A: 1, Num: 1}, {Kind: ndReg, A: 2, Num: 2}, {Kind: ndIn}, {Kind: ndMore, Num: 1}},
			[]int{1, 2, 1, 2}, []int{0, 0, 1, 0}, "7:0,0;1,2"},
		{"a register that takes one before it", []impl.Node{{Kind: ndIn}, {Kind: ndReg, Num: 2}, {Kind: ndReg, A: 1, Num: 1}},
			[]int{1, 2, 1, 2}, []int{0, 0, 1, 0}, "7:0,0;1,2"},
		{"two registers that take each other", []impl.Node{{Kind: ndReg, A: 1, Num: 1}, {Kind: ndReg, A: 0, Num: 2}},
			[]int{2, 1, 2, 1}, []int{0, 0, 0, 0}, "7:0,1;2,1"},
		{"a sum of a register behind it", []impl.Node{{Kind: ndIn}, {Kind: ndAdd, A: 0, B: 2}, {Kind: ndReg, A: 1, Num: 4}, {Kind: ndMore, A: 1, Num: 1}},
			[]int{5, 0, 3, 0}, []int{1, 1, 1, 1}, "7:1;4"},
		{"a multiple of a register behind it", []impl.Node{{Kind: ndMore, A: 1, Num: 3}, {Kind: ndReg, A: 2, Num: 2}, {Kind: ndIn}, {Kind: ndAdd, A: 0, B: 1}},
			[]int{1, 4, 1, 5}, []int{0, 4, 0, 0}, "7:0;1"},
		{"a sum of two registers behind it", []impl.Node{{Kind: ndAdd, A: 2, B: 1}, {Kind: ndReg, A: 2, Num: 1}, {Kind: ndReg, A: 0, Num: 1}, {Kind: ndMore, A: 0, Num: 1}},
			[]int{2, 3, 5, 1}, []int{0, 0, 0, 0}, "7:1,1;2,3"},
	} {
		n := impl.Net{Prime: 7, Nodes: x.nodes}
		if !impl.NetValid(n) {
			t.Error(x.name, "is not valid")
		}
		for many := range 5 {
			if got := impl.NetRun(n, []int{1, 2, 3, 4}[:many]); !slices.Equal(got, x.give[:many]) {
				t.Error(x.name, "gives", got, "not", x.give[:many])
			}
			if got := impl.NetPart(n, many); !slices.Equal(got, x.part[:many]) {
				t.Error(x.name, "has the part", got, "not", x.part[:many])
			}
		}
		if got := impl.RecText(impl.NetStream(n)); got != x.stream {
			t.Error(x.name, "has the stream", got, "not", x.stream)
		}
	}
}

func TestCircuitsOfRecurrencesWorkedOutByHand(t *testing.T) {
	for _, x := range []struct {
		text  string
		nodes []impl.Node
	}{
		{"13:;", []impl.Node{{Kind: ndIn}, {Kind: ndMore}}},
		{"5:3;2", []impl.Node{{Kind: ndReg, A: 1, Num: 2}, {Kind: ndMore, A: 0, Num: 3}, {Kind: ndMore, A: 0, Num: 1}}},
		{"2:0;0", []impl.Node{{Kind: ndReg, A: 1}, {Kind: ndMore}, {Kind: ndMore, A: 0, Num: 1}}},
		{"7:4,5,6;1,2,3", []impl.Node{
			{Kind: ndReg, A: 1, Num: 1}, {Kind: ndReg, A: 2, Num: 2}, {Kind: ndReg, A: 7, Num: 3},
			{Kind: ndMore, A: 2, Num: 4}, {Kind: ndMore, A: 1, Num: 5}, {Kind: ndMore, A: 0, Num: 6},
			{Kind: ndAdd, A: 3, B: 4}, {Kind: ndAdd, A: 6, B: 5}, {Kind: ndMore, A: 0, Num: 1}}},
		{"13:1,2,3,4,5,6;7,8,9,10,11,12", []impl.Node{
			{Kind: ndReg, A: 1, Num: 7}, {Kind: ndReg, A: 2, Num: 8}, {Kind: ndReg, A: 3, Num: 9},
			{Kind: ndReg, A: 4, Num: 10}, {Kind: ndReg, A: 5, Num: 11}, {Kind: ndReg, A: 16, Num: 12},
			{Kind: ndMore, A: 5, Num: 1}, {Kind: ndMore, A: 4, Num: 2}, {Kind: ndMore, A: 3, Num: 3},
			{Kind: ndMore, A: 2, Num: 4}, {Kind: ndMore, A: 1, Num: 5}, {Kind: ndMore, A: 0, Num: 6},
			{Kind: ndAdd, A: 6, B: 7}, {Kind: ndAdd, A: 12, B: 8}, {Kind: ndAdd, A: 13, B: 9},
			{Kind: ndAdd, A: 14, B: 10}, {Kind: ndAdd, A: 15, B: 11}, {Kind: ndMore, A: 0, Num: 1}}},
	} {
		r := mustRead(t, x.text)
		if got := impl.NetOf(r); got.Prime != r.Prime || !slices.Equal(got.Nodes, x.nodes) {
			t.Error("the circuit of", x.text, "is", got)
		}
	}
}

func TestTwoCircuitsWorkedOutByHand(t *testing.T) {
	a := impl.Net{Prime: 5, Nodes: []impl.Node{{Kind: ndReg, A: 2, Num: 3}, {Kind: ndIn}, {Kind: ndAdd, A: 0, B: 1}}}
	b := impl.Net{Prime: 5, Nodes: []impl.Node{{Kind: ndIn}, {Kind: ndMore, A: 3, Num: 4}, {Kind: ndIn}, {Kind: ndReg, A: 2, Num: 1}, {Kind: ndAdd, A: 1, B: 0}}}
	then := []impl.Node{
		{Kind: ndReg, A: 2, Num: 3}, {Kind: ndIn}, {Kind: ndAdd, A: 0, B: 1},
		{Kind: ndMore, A: 2, Num: 1}, {Kind: ndMore, A: 6, Num: 4}, {Kind: ndMore, A: 2, Num: 1}, {Kind: ndReg, A: 5, Num: 1}, {Kind: ndAdd, A: 4, B: 3}}
	if got, ok := impl.NetThen(a, b); !ok || got.Prime != 5 || !slices.Equal(got.Nodes, then) {
		t.Error("one behind the other they are", got, ok)
	}
	side := []impl.Node{
		{Kind: ndReg, A: 2, Num: 3}, {Kind: ndIn}, {Kind: ndAdd, A: 0, B: 1},
		{Kind: ndIn}, {Kind: ndMore, A: 6, Num: 4}, {Kind: ndIn}, {Kind: ndReg, A: 5, Num: 1}, {Kind: ndAdd, A: 4, B: 3}, {Kind: ndAdd, A: 2, B: 7}}
	if got, ok := impl.NetSide(a, b); !ok || got.Prime != 5 || !slices.Equal(got.Nodes, side) {
		t.Error("side by side they are", got, ok)
	}
	// The sums of all numbers so far, from 3 on; and each number, and 4 times the one before, which is 1 at first.
	if got := impl.NetRun(a, []int{1, 1, 2, 0}); !slices.Equal(got, []int{4, 0, 2, 2}) {
		t.Error("the first one gives", got)
	}
	if got := impl.NetRun(b, []int{4, 0, 2, 2}); !slices.Equal(got, []int{3, 1, 2, 0}) {
		t.Error("the second one gives", got)
	}
	n, _ := impl.NetThen(a, b)
	if got := impl.NetRun(n, []int{1, 1, 2, 0}); !slices.Equal(got, []int{3, 1, 2, 0}) {
		t.Error("one behind the other they give", got)
	}
	// The second one gives 0, 0, 1, 3 for these.
	n, _ = impl.NetSide(a, b)
	if got := impl.NetRun(n, []int{1, 1, 2, 0}); !slices.Equal(got, []int{4, 0, 3, 0}) {
		t.Error("side by side they give", got)
	}
}
