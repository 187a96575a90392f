package tests

import (
	"slices"
	"testing"

	"loop.example/rationalstreams/impl"
)

// These are the document's numbers; the tests do not take them from the program.
const (
	maxNodes = 24
	maxRegs  = 6
	ndIn     = 0
	ndAdd    = 1
	ndMore   = 2
	ndReg    = 3
)

// registersOf has the places of the registers of a circuit.
func registersOf(n impl.Net) []int {
	var places []int
	for place, node := range n.Nodes {
		if node.Kind == ndReg {
			places = append(places, place)
		}
	}
	return places
}

// inputsOf is how many nodes of a circuit are its input.
func inputsOf(n impl.Net) int {
	many := 0
	for _, node := range n.Nodes {
		if node.Kind == ndIn {
			many++
		}
	}
	return many
}

// ranBy is what a circuit gives: each node at each step is asked for what it is made of, and this is asked for the same.
func ranBy(n impl.Net, input []int) []int {
	known := make([][]int, len(input))
	for step := range known {
		known[step] = slices.Repeat([]int{-1}, len(n.Nodes))
	}
	var at func(place, step int) int
	at = func(place, step int) int {
		if known[step][place] < 0 {
			node, number := n.Nodes[place], 0
			switch {
			case node.Kind == ndIn:
				number = input[step]
			case node.Kind == ndAdd:
				number = at(node.A, step) + at(node.B, step)
			case node.Kind == ndMore:
				number = at(node.A, step) * node.Num
			case step == 0:
				number = node.Num
			default:
				number = at(node.A, step-1)
			}
			known[step][place] = number % n.Prime
		}
		return known[step][place]
	}
	output := make([]int, len(input))
	for step := range output {
		output[step] = at(len(n.Nodes)-1, step)
	}
	return output
}

// forNothing is what a circuit gives for 0 alone.
func forNothing(n impl.Net, many int) []int {
	return ranBy(n, make([]int, many))
}

// partBy is what a circuit gives for 1, and then 0 alone, less what it gives for 0 alone.
func partBy(n impl.Net, many int) []int {
	input := make([]int, many)
	less := ranBy(n, input)
	if many > 0 {
		input[0] = 1
	}
	part := ranBy(n, input)
	for step := range part {
		part[step] = (part[step] + n.Prime - less[step]) % n.Prime
	}
	return part
}

// sumsOf is two rows together, number by number.
func sumsOf(p int, s, t []int) []int {
	sums := slices.Clone(s)
	for i := range sums {
		sums[i] = (sums[i] + t[i]) % p
	}
	return sums
}

// rightNodes has every node that is right at a place of a circuit, whatever stands there.
func rightNodes(n impl.Net, place int, register bool) []impl.Node {
	var list []impl.Node
	if register {
		for a := range n.Nodes {
			for num := range n.Prime {
				list = append(list, impl.Node{Kind: ndReg, A: a, Num: num})
			}
		}
		return list
	}
	list = append(list, impl.Node{Kind: ndIn})
	for a, one := range n.Nodes {
		if a >= place && (a == place || one.Kind != ndReg) {
			continue
		}
		for num := range n.Prime {
			list = append(list, impl.Node{Kind: ndMore, A: a, Num: num})
		}
		for b, two := range n.Nodes {
			if b < place || b > place && two.Kind == ndReg {
				list = append(list, impl.Node{Kind: ndAdd, A: a, B: b})
			}
		}
	}
	return list
}

// isNet tells by the document's sentence whether a circuit is valid.
func isNet(n impl.Net) bool {
	if !slices.Contains(primes, n.Prime) || len(n.Nodes) < 1 || len(n.Nodes) > maxNodes || len(registersOf(n)) > maxRegs {
		return false
	}
	for place, node := range n.Nodes {
		if !slices.Contains(rightNodes(n, place, node.Kind == ndReg), node) {
			return false
		}
	}
	return true
}

func sameNet(a, b impl.Net) bool {
	return a.Prime == b.Prime && slices.Equal(a.Nodes, b.Nodes)
}

func isNoNet(n impl.Net) bool {
	return sameNet(n, impl.Net{})
}

func clonedNet(n impl.Net) impl.Net {
	return impl.Net{Prime: n.Prime, Nodes: slices.Clone(n.Nodes)}
}

// shifted is a node with its indices so many more.
func shifted(node impl.Node, by int) impl.Node {
	switch node.Kind {
	case ndAdd:
		return impl.Node{Kind: ndAdd, A: node.A + by, B: node.B + by}
	case ndIn:
		return node
	}
	return impl.Node{Kind: node.Kind, A: node.A + by, Num: node.Num}
}

// thenBy has the nodes of both circuits, the second one with the last node of the first one as its input.
func thenBy(a, b impl.Net) impl.Net {
	n := clonedNet(a)
	for _, node := range b.Nodes {
		next := shifted(node, len(a.Nodes))
		if node.Kind == ndIn {
			next = impl.Node{Kind: ndMore, A: len(a.Nodes) - 1, Num: 1}
		}
		n.Nodes = append(n.Nodes, next)
	}
	return n
}

// sideBy has the nodes of both circuits, and the sum of their last ones.
func sideBy(a, b impl.Net) impl.Net {
	n := clonedNet(a)
	for _, node := range b.Nodes {
		n.Nodes = append(n.Nodes, shifted(node, len(a.Nodes)))
	}
	n.Nodes = append(n.Nodes, impl.Node{Kind: ndAdd, A: len(a.Nodes) - 1, B: len(a.Nodes) + len(b.Nodes) - 1})
	return n
}

// netBy is the circuit of a recurrence: registers, their multiples, the sums of these, and the first register once.
func netBy(r impl.Rec) impl.Net {
	order := len(r.First)
	n := impl.Net{Prime: r.Prime, Nodes: make([]impl.Node, max(3*order, 2))}
	if order == 0 {
		n.Nodes[1] = impl.Node{Kind: ndMore}
		return n
	}
	for i := range order {
		n.Nodes[i] = impl.Node{Kind: ndReg, A: i + 1, Num: r.First[i]}
		n.Nodes[order+i] = impl.Node{Kind: ndMore, A: order - 1 - i, Num: r.Times[i]}
	}
	for i := range order - 1 {
		n.Nodes[2*order+i] = impl.Node{Kind: ndAdd, A: 2*order + i - 1, B: order + 1 + i}
	}
	if order > 1 {
		n.Nodes[2*order].A = order
	}
	n.Nodes[order-1].A = 3*order - 2
	n.Nodes[3*order-1] = impl.Node{Kind: ndMore, A: 0, Num: 1}
	return n
}

// pick takes one of some places, and often the last one.
func (c *chance) pick(places []int) int {
	if c.below(2) == 0 {
		return places[len(places)-1]
	}
	return places[c.below(len(places))]
}

// filled makes a mixed circuit with so many nodes and with registers at some places. Other nodes that cannot have another one as their input yet are its input.
func (c *chance) filled(p, nodes int, registers []int) impl.Net {
	n := impl.Net{Prime: p, Nodes: make([]impl.Node, nodes)}
	known := slices.Clone(registers)
	for place := range n.Nodes {
		switch {
		case slices.Contains(registers, place):
			n.Nodes[place] = impl.Node{Kind: ndReg, A: c.below(nodes), Num: c.below(p)}
			continue
		case len(known) == 0 || c.below(6) == 0:
			n.Nodes[place] = impl.Node{Kind: ndIn}
		case c.below(3) == 0:
			n.Nodes[place] = impl.Node{Kind: ndMore, A: c.pick(known), Num: max(c.below(p), c.below(p))}
		default:
			n.Nodes[place] = impl.Node{Kind: ndAdd, A: c.pick(known), B: c.pick(known)}
		}
		known = append(known, place)
	}
	return n
}

// net makes a mixed circuit with just so many nodes, and just so many registers among them.
func (c *chance) net(p, nodes, registers int) impl.Net {
	var places []int
	for place := range nodes {
		if c.below(nodes-place) < registers-len(places) {
			places = append(places, place)
		}
	}
	return c.filled(p, nodes, places)
}

// countFrom has so many numbers from one on.
func countFrom(first, many int) []int {
	list := make([]int, many)
	for i := range list {
		list[i] = first + i
	}
	return list
}

// changedNet is a circuit with each node of a kind changed.
func changedNet(n impl.Net, kind int, change func(place int, node *impl.Node)) impl.Net {
	m := clonedNet(n)
	for place := range m.Nodes {
		if m.Nodes[place].Kind == kind {
			change(place, &m.Nodes[place])
		}
	}
	return m
}

// delay is a circuit that gives its input only after as many steps as it has registers, fewer than nodes.
func (c *chance) delay(p, nodes, registers int) impl.Net {
	n := impl.Net{Prime: p, Nodes: []impl.Node{{Kind: ndIn}}}
	for place := 1; place <= registers; place++ {
		n.Nodes = append(n.Nodes, impl.Node{Kind: ndReg, A: place - 1, Num: 1 + c.below(p-1)})
	}
	for place := registers + 1; place < nodes; place++ {
		n.Nodes = append(n.Nodes, impl.Node{Kind: ndMore, A: place - 1, Num: 1})
	}
	return n
}

// netsBy has some circuits with so many nodes and registers: mixed ones, with registers ahead of all others, or behind them, that take themselves, the last node, or each other, without NdIn, with NdIn at last, with sums of a node and itself, with multiples by 0, and those that give 0 for 0.
func (c *chance) netsBy(p, nodes, registers int) []impl.Net {
	n := c.net(p, nodes, registers)
	list := []impl.Net{
		n, c.net(p, nodes, registers),
		c.filled(p, nodes, countFrom(0, registers)),
		c.filled(p, nodes, countFrom(nodes-registers, registers)),
		changedNet(n, ndReg, func(place int, node *impl.Node) { node.Num = 0 }),
		changedNet(n, ndReg, func(place int, node *impl.Node) { node.A = place }),
		changedNet(n, ndReg, func(place int, node *impl.Node) { node.A = nodes - 1 }),
		changedNet(n, ndAdd, func(place int, node *impl.Node) { node.B = node.A }),
		changedNet(n, ndMore, func(place int, node *impl.Node) { node.Num = 0 }),
	}
	if places := registersOf(n); registers > 0 {
		next := func(place int) int { return places[(slices.Index(places, place)+1)%registers] }
		list = append(list,
			changedNet(n, ndReg, func(place int, node *impl.Node) { node.A = next(place) }),
			changedNet(n, ndIn, func(place int, node *impl.Node) {
				*node = impl.Node{Kind: ndMore, A: places[c.below(registers)], Num: c.below(p)}
			}))
	}
	if nodes > registers {
		last := clonedNet(list[2])
		last.Nodes[nodes-1] = impl.Node{Kind: ndIn}
		list = append(list, last, c.delay(p, nodes, registers))
	}
	return list
}

// smallNets has every circuit with just so many nodes.
func smallNets(p, nodes int) []impl.Net {
	var list []impl.Net
	for _, kinds := range allRows(2, nodes) {
		n := impl.Net{Prime: p, Nodes: make([]impl.Node, nodes)}
		for place, kind := range kinds {
			n.Nodes[place].Kind = kind * ndReg
		}
		some := []impl.Net{n}
		for place := range nodes {
			var longer []impl.Net
			for _, before := range some {
				for _, node := range rightNodes(before, place, kinds[place] == 1) {
					next := clonedNet(before)
					next.Nodes[place] = node
					longer = append(longer, next)
				}
			}
			some = longer
		}
		list = append(list, some...)
	}
	return list
}

// eachNet gives all small circuits, some of all primes and of all numbers of nodes and registers, and those of recurrences.
func eachNet(do func(n impl.Net)) {
	for _, small := range []struct{ p, nodes int }{{2, 1}, {2, 2}, {2, 3}, {3, 1}, {3, 2}, {13, 1}} {
		for _, n := range smallNets(small.p, small.nodes) {
			do(n)
		}
	}
	c := &chance{state: 91}
	for _, p := range primes {
		for nodes := 1; nodes <= maxNodes; nodes++ {
			for registers := range min(nodes, maxRegs) + 1 {
				for _, n := range c.netsBy(p, nodes, registers) {
					do(n)
				}
			}
		}
		for order := range maxOrder + 1 {
			for _, r := range c.recsBy(p, order) {
				do(netBy(r))
			}
		}
	}
}

// eachTwoNets gives two circuits for the same prime: small ones, and some of all numbers of nodes and registers, among them those that together have just as many as are valid, and one more.
func eachTwoNets(do func(a, b impl.Net)) {
	list := slices.Concat(smallNets(2, 1), smallNets(2, 2))
	for _, a := range list {
		for _, b := range list {
			do(a, b)
		}
	}
	c := &chance{state: 92}
	one := func(p, nodes, registers int) impl.Net {
		list := c.netsBy(p, nodes, registers)
		return list[c.below(len(list))]
	}
	for _, p := range primes {
		for first := 1; first <= maxNodes; first++ {
			for second := 1; second <= maxNodes; second++ {
				do(one(p, first, c.below(min(first, 3)+1)), one(p, second, c.below(min(second, 3)+1)))
			}
			for _, all := range []int{maxNodes - 1, maxNodes, maxNodes + 1} {
				if second := all - first; second >= 1 && second <= maxNodes {
					for registers := range min(first, second, 3) + 1 {
						do(one(p, first, registers), one(p, second, registers))
					}
				}
			}
		}
		for first := range maxRegs + 1 {
			for second := range maxRegs + 1 {
				for range 3 {
					do(one(p, max(first, 1)+c.below(4), first), one(p, max(second, 1)+c.below(4), second))
				}
			}
		}
	}
}

// plain is a circuit with so many nodes, two at least: the input, a register that takes the last node, and sums and multiples by turns.
func plain(p, nodes int) impl.Net {
	n := impl.Net{Prime: p, Nodes: []impl.Node{{Kind: ndIn}, {Kind: ndReg, A: nodes - 1, Num: 1}}}
	for place := 2; place < nodes; place++ {
		next := impl.Node{Kind: ndAdd, A: place - 1, B: 1}
		if place%2 == 1 {
			next = impl.Node{Kind: ndMore, A: place - 1, Num: 1}
		}
		n.Nodes = append(n.Nodes, next)
	}
	return n
}

// badNodes has nodes that are not right at a place of a circuit like plain, behind the register.
func badNodes(p, place, nodes int) []impl.Node {
	var list []impl.Node
	for _, kind := range noCounts(ndIn, ndReg) {
		list = append(list, impl.Node{Kind: kind}, impl.Node{Kind: kind, A: 1, B: 1}, impl.Node{Kind: kind, A: 1, Num: 1})
	}
	outside := noCounts(0, nodes-1)
	for _, a := range append(countFrom(place, nodes-place), outside...) {
		list = append(list, impl.Node{Kind: ndAdd, A: a, B: 1}, impl.Node{Kind: ndAdd, A: 1, B: a}, impl.Node{Kind: ndAdd, A: a, B: a}, impl.Node{Kind: ndMore, A: a, Num: 1})
	}
	for _, a := range outside {
		list = append(list, impl.Node{Kind: ndReg, A: a})
	}
	for _, num := range noNumbers(p) {
		list = append(list, impl.Node{Kind: ndMore, A: 1, Num: num}, impl.Node{Kind: ndReg, A: 1, Num: num})
	}
	for _, more := range noCounts(0, -1) {
		if more != 0 {
			list = append(list, impl.Node{Kind: ndIn, A: more}, impl.Node{Kind: ndIn, B: more}, impl.Node{Kind: ndIn, Num: more},
				impl.Node{Kind: ndAdd, A: 1, B: 1, Num: more}, impl.Node{Kind: ndMore, A: 1, B: more, Num: 1}, impl.Node{Kind: ndReg, A: 1, B: more, Num: 1})
		}
	}
	return list
}

// badNets has circuits that are not valid, for a prime.
func badNets(p int) []impl.Net {
	list := []impl.Net{{Prime: p}, {Prime: p, Nodes: []impl.Node{}}}
	for _, nodes := range []int{3, 4, 8, maxNodes} {
		for place := 2; place < nodes; place++ {
			for _, node := range badNodes(p, place, nodes) {
				bad := plain(p, nodes)
				bad.Nodes[place] = node
				list = append(list, bad)
			}
		}
	}
	for _, nodes := range []int{maxNodes + 1, maxNodes + 2, 2 * maxNodes, 1000} {
		list = append(list, plain(p, nodes), impl.Net{Prime: p, Nodes: make([]impl.Node, nodes)})
	}
	for _, registers := range []int{maxRegs + 1, maxRegs + 2, maxNodes, maxNodes + 1} {
		selves := impl.Net{Prime: p}
		for place := range registers {
			selves.Nodes = append(selves.Nodes, impl.Node{Kind: ndReg, A: place})
		}
		list = append(list, selves, (&chance{state: 93}).net(p, max(maxNodes, registers), registers))
	}
	return append(list, impl.Net{Prime: p, Nodes: []impl.Node{{Kind: ndMore, Num: 1}}}, impl.Net{Prime: p, Nodes: []impl.Node{{Kind: ndAdd}}},
		impl.Net{Prime: p, Nodes: []impl.Node{{Kind: ndMore, A: 1, Num: 1}, {Kind: ndMore, Num: 1}}},
		impl.Net{Prime: p, Nodes: []impl.Node{{Kind: ndAdd, A: 1, B: 1}, {Kind: ndIn}}})
}

// eachBadNet gives these for all primes, and circuits for numbers that are no prime of the six.
func eachBadNet(do func(bad impl.Net)) {
	for _, p := range primes {
		for _, bad := range badNets(p) {
			do(bad)
		}
	}
	do(impl.Net{})
	for _, p := range noPrimes {
		for _, nodes := range []int{2, 3, 4, maxNodes, maxNodes + 1} {
			do(plain(p, nodes))
		}
		for _, node := range []impl.Node{{Kind: ndIn}, {Kind: ndReg}, {Kind: ndReg, Num: 1}, {Kind: ndReg, Num: p}} {
			do(impl.Net{Prime: p, Nodes: []impl.Node{node}})
		}
		do(impl.Net{Prime: p})
	}
}

// mustGive holds what a circuit gives against what it should give.
func mustGive(t *testing.T, n impl.Net, input, want []int) {
	t.Helper()
	if got := impl.NetRun(n, input); !slices.Equal(got, want) {
		t.Fatal("for", input, "the circuit", n, "gives", got, "not", want)
	}
}
