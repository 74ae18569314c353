package plan_test

import (
	"fmt"
	"math"
	"slices"
	"testing"

	"berthshift/api"
	"berthshift/plan"
)

// at: a load, written out.
func at(queue, node, work int) api.Load { return api.Load{Queue: queue, Node: node, Work: work} }

// goes: a plan, written out.
func goes(queue, from, to int) api.Plan { return api.Plan{Queue: queue, From: from, To: to} }

// loads and plans as lists.
func loads(l ...api.Load) []api.Load { return l }

func plans(l ...api.Plan) []api.Plan { return l }

const most = api.MaxWork

// spreads: is this the spread of these loads?
func spreads(t *testing.T, l []api.Load, nodes, want int) {
	t.Helper()
	if got, e := plan.Spread(l, nodes); got != want || e != api.OK {
		t.Errorf("Spread of %v, %d nodes: %v, %v; want %v", l, nodes, got, e, want)
	}
}

// balances: are these the plans for these loads?
func balances(t *testing.T, l []api.Load, nodes, moves int, want []api.Plan) {
	t.Helper()
	if got, e := plan.Balance(l, nodes, moves); !slices.Equal(got, want) || e != api.OK {
		t.Errorf("Balance of %v, %d nodes, %d moves: %v, %v; want %v", l, nodes, moves, got, e, want)
	}
}

// refused: do both calls answer nothing but this error, however many moves are asked for?
func refused(t *testing.T, l []api.Load, nodes int, want api.Errno) {
	t.Helper()
	if got, e := plan.Spread(l, nodes); got != 0 || e != want {
		t.Errorf("Spread of %v, %d nodes: %v, %v; want nothing, %v", l, nodes, got, e, want)
	}
	for _, moves := range []int{math.MinInt, -1, 0, 1, 4, 5, math.MaxInt} {
		if got, e := plan.Balance(l, nodes, moves); len(got) != 0 || e != want {
			t.Errorf("Balance of %v, %d nodes, %d moves: %v, %v; want nothing, %v", l, nodes, moves, got, e, want)
		}
	}
}

// P9.1: lists of loads that may be: none, each queue alone, some, all; each node; each bound of a Work.
func TestMayBe(t *testing.T) {
	for nodes := 1; nodes <= 5; nodes++ {
		lists := [][]api.Load{nil, {}, loads(at(0, 0, 0), at(3, nodes-1, 0)), loads(at(1, nodes-1, 0), at(2, 0, 0)), loads(at(0, 0, 0), at(1, 0, 0), at(2, 0, 0), at(3, 0, 0))}
		for q := range 4 {
			for node := range nodes {
				for _, work := range []int{0, 1, most - 1, most} {
					lists = append(lists, loads(at(q, node, work)))
				}
			}
		}
		for _, l := range lists {
			if _, e := plan.Spread(l, nodes); e != api.OK {
				t.Errorf("Spread of %v, %d nodes: %v", l, nodes, e)
			}
			for moves := range 5 {
				if _, e := plan.Balance(l, nodes, moves); e != api.OK {
					t.Errorf("Balance of %v, %d nodes, %d moves: %v", l, nodes, moves, e)
				}
			}
		}
	}
}

// P9.1: numbers of nodes that are refused, ahead of loads that may not be, and of moves that may not be.
func TestNodes(t *testing.T) {
	for _, nodes := range []int{math.MinInt, -1 << 32, -5, -1, 0, 6, 7, 1 << 32, 1<<32 + 1, 1<<32 + 5, math.MaxInt} {
		for _, l := range [][]api.Load{nil, loads(at(0, 0, 1)), loads(at(0, 5, 1)), loads(at(0, -1, 1)), loads(at(4, 0, 1)), loads(at(1, 0, 1), at(1, 0, 1)), loads(at(0, 0, -1))} {
			refused(t, l, nodes, api.ErrRange)
		}
	}
}

// wrong: numbers outside 0 to most.
func wrong(most int) []int {
	return []int{math.MinInt, -1 << 32, -2, -1, most + 1, most + 2, 1 << 32, 1<<32 + 1, math.MaxInt}
}

// P9.1: one load that may not be, alone and at each place among others that may; ahead of moves that may not be.
func TestWrongLoad(t *testing.T) {
	for nodes := 1; nodes <= 5; nodes++ {
		var bad []api.Load
		for _, n := range wrong(3) {
			bad = append(bad, at(n, 0, 1))
		}
		for _, n := range wrong(nodes - 1) {
			bad = append(bad, at(0, n, 1), at(0, n, 0), at(3, n, most))
		}
		for _, n := range wrong(most) {
			bad = append(bad, at(0, 0, n), at(3, nodes-1, n))
		}
		for _, x := range bad {
			refused(t, loads(x), nodes, api.ErrState)
			for i := range 4 {
				l := loads(at(0, 0, 3), at(1, 0, 0), at(2, nodes-1, most), at(3, 0, 1))
				if 0 <= x.Queue && x.Queue < 4 {
					x.Queue = i
				}
				l[i] = x
				refused(t, l, nodes, api.ErrState)
			}
		}
	}
}

// P9.1: Queues that do not rise: twice the same one, or falling, at each place; more loads than there are queues.
func TestQueuesRise(t *testing.T) {
	lists := [][]int{{0, 0}, {1, 1}, {3, 3}, {1, 0}, {3, 2}, {3, 0}, {0, 0, 1}, {0, 1, 1}, {0, 2, 1}, {0, 1, 0}, {2, 3, 3}, {1, 2, 3, 0}, {0, 1, 2, 2}, {0, 1, 3, 2}, {1, 0, 2, 3}, {0, 2, 1, 3}, {0, 1, 2, 3, 3}, {0, 1, 2, 3, 4}, {0, 1, 2, 3, 0}, {0, 1, 2, 3, 0, 1, 2, 3}}
	for _, queues := range lists {
		for nodes := 1; nodes <= 5; nodes++ {
			var l []api.Load
			for _, q := range queues {
				l = append(l, at(q, q%nodes, 1))
			}
			refused(t, l, nodes, api.ErrState)
		}
	}
	long := make([]api.Load, 100000)
	for i := range long {
		long[i] = at(i, 0, 1)
	}
	refused(t, long, 1, api.ErrState)
}

// P9.2: what the busiest node has more than the idlest one: nodes without a queue have none, one node alone is both.
func TestSpread(t *testing.T) {
	for _, c := range []struct {
		l     []api.Load
		nodes int
		want  int
	}{
		{nil, 1, 0},
		{nil, 5, 0},
		{loads(at(0, 0, 7)), 1, 0},
		{loads(at(0, 0, 7), at(1, 0, 3)), 1, 0},
		{loads(at(0, 0, 7)), 2, 7},
		{loads(at(2, 1, 7)), 2, 7},
		{loads(at(0, 0, 7), at(1, 1, 3)), 2, 4},
		{loads(at(0, 0, 3), at(1, 1, 7)), 2, 4},
		{loads(at(0, 0, 7), at(1, 1, 3)), 3, 7},
		{loads(at(0, 0, 7), at(1, 0, 3)), 2, 10},
		{loads(at(0, 0, 7), at(3, 1, 7)), 2, 0},
		{loads(at(0, 1, 2), at(1, 0, 5), at(2, 1, 3), at(3, 2, 4)), 3, 1},
		{loads(at(0, 4, 9), at(1, 3, 8), at(2, 2, 7), at(3, 1, 6)), 5, 9},
		{loads(at(0, 4, 9), at(1, 4, 8), at(2, 2, 7), at(3, 1, 6)), 5, 17},
		{loads(at(0, 0, 0), at(1, 1, 0)), 2, 0},
		{loads(at(0, 0, most), at(1, 0, most), at(2, 0, most), at(3, 0, most)), 2, 1 << 32},
		{loads(at(0, 0, most), at(1, 0, most), at(2, 1, most), at(3, 1, most-1)), 2, 1},
		{loads(at(0, 4, most)), 5, 1 << 30},
	} {
		spreads(t, c.l, c.nodes, c.want)
	}
}

// P9.3: the plans, one behind the other.
func TestBalance(t *testing.T) {
	for _, c := range []struct {
		what         string
		l            []api.Load
		nodes, moves int
		want         []api.Plan
	}{
		{"no loads", nil, 5, 4, nil},
		{"one node", loads(at(0, 0, 7), at(1, 0, 3)), 1, 4, nil},
		{"all the work in one queue", loads(at(0, 0, 7)), 2, 4, nil},
		{"the most work of those below the gap", loads(at(0, 0, 7), at(1, 0, 3)), 2, 4, plans(goes(0, 0, 1))},
		{"the last queue", loads(at(0, 0, 3), at(3, 0, 7)), 2, 4, plans(goes(3, 0, 1))},
		{"the greatest, which is not the first one", loads(at(0, 0, 3), at(1, 0, 5), at(2, 0, 4)), 2, 1, plans(goes(1, 0, 1))},
		{"from a higher node to a lower one", loads(at(1, 1, 3), at(2, 1, 7)), 2, 4, plans(goes(2, 1, 0))},
		{"of two, the lowest queue", loads(at(1, 0, 5), at(2, 0, 5)), 2, 4, plans(goes(1, 0, 1))},
		{"of three, the lowest queue", loads(at(0, 0, 1), at(1, 0, 5), at(2, 0, 5), at(3, 0, 5)), 2, 1, plans(goes(1, 0, 1))},

		{"as much as the gap", loads(at(0, 0, 5), at(1, 0, 5), at(2, 1, 5)), 2, 4, nil},
		{"one less than the gap", loads(at(0, 0, 5), at(1, 0, 5), at(2, 1, 4)), 2, 4, plans(goes(0, 0, 1))},
		{"one more than the gap", loads(at(0, 0, 5), at(1, 0, 5), at(2, 1, 6)), 2, 4, nil},
		{"a lesser one below the gap", loads(at(0, 0, 5), at(1, 0, 1), at(2, 1, 2)), 2, 4, plans(goes(1, 0, 1))},
		{"no gap", loads(at(0, 0, 5), at(1, 1, 5)), 2, 4, nil},

		{"no work", loads(at(0, 0, 0), at(1, 0, 9)), 2, 4, nil},
		{"no work anywhere", loads(at(0, 0, 0), at(1, 1, 0)), 2, 4, nil},
		{"no work, beside one that goes", loads(at(0, 0, 0), at(1, 0, 9), at(2, 0, 1)), 2, 4, plans(goes(1, 0, 1))},
		{"work of 1", loads(at(0, 0, 1), at(1, 0, 9)), 2, 1, plans(goes(1, 0, 1))},
		{"work of 1 alone below the gap", loads(at(0, 0, 1), at(1, 0, 9), at(2, 1, 8)), 2, 4, plans(goes(0, 0, 1))},

		{"of two busiest nodes, the lowest one", loads(at(0, 2, 2), at(1, 2, 2), at(2, 1, 3), at(3, 1, 1)), 3, 1, plans(goes(2, 1, 0))},
		{"of two idlest nodes, the lowest one", loads(at(0, 1, 2), at(1, 1, 2)), 4, 1, plans(goes(0, 1, 0))},
		{"of two idlest nodes, where the first node is not one", loads(at(0, 0, 2), at(1, 1, 2), at(2, 1, 2)), 5, 1, plans(goes(1, 1, 2))},
		{"of two idlest nodes that are busy", loads(at(0, 0, 2), at(1, 1, 1), at(2, 2, 1), at(3, 0, 1)), 3, 1, plans(goes(3, 0, 1))},
		{"the last node", loads(at(0, 0, 2), at(1, 1, 2), at(2, 2, 2), at(3, 2, 3)), 4, 1, plans(goes(3, 2, 3))},

		{"none of the busiest node's, though another node has one", loads(at(0, 0, 9), at(1, 1, 2), at(2, 1, 2)), 3, 4, nil},
		{"the next plan, as if the queue were there", loads(at(0, 0, 5), at(1, 0, 4), at(2, 0, 3)), 3, 4, plans(goes(0, 0, 1), goes(1, 0, 2))},
		{"a queue that was moved is the busiest node's, though another one has such as could go", loads(at(0, 0, 9), at(1, 0, 1), at(2, 1, 4), at(3, 1, 4)), 3, 4, plans(goes(0, 0, 2))},
		{"a queue that was moved makes its node the busiest one", loads(at(0, 0, 10), at(1, 0, 2), at(2, 1, 1)), 2, 4, plans(goes(0, 0, 1), goes(2, 1, 0))},
		{"a queue that was moved does not go on", loads(at(0, 0, 6), at(1, 0, 5)), 3, 4, plans(goes(0, 0, 1))},
		{"the queue that was moved is all that the busiest node has", loads(at(0, 0, 4), at(1, 0, 3), at(2, 0, 2), at(3, 0, 1)), 5, 4, plans(goes(0, 0, 1), goes(1, 0, 2))},
		{"three plans, there and back", loads(at(0, 0, 1), at(1, 0, 1), at(2, 1, 3), at(3, 1, 5)), 2, 4, plans(goes(3, 1, 0), goes(0, 0, 1), goes(1, 0, 1))},
		{"three plans, and of two busiest nodes the lowest one each time", loads(at(0, 0, 1), at(1, 0, 4), at(2, 1, 2), at(3, 1, 3)), 3, 4, plans(goes(1, 0, 2), goes(3, 1, 0), goes(0, 0, 1))},
		{"two of three plans", loads(at(0, 0, 1), at(1, 0, 1), at(2, 1, 3), at(3, 1, 5)), 2, 2, plans(goes(3, 1, 0), goes(0, 0, 1))},
		{"three of three plans", loads(at(0, 0, 1), at(1, 0, 1), at(2, 1, 3), at(3, 1, 5)), 2, 3, plans(goes(3, 1, 0), goes(0, 0, 1), goes(1, 0, 1))},

		{"no moves", loads(at(0, 0, 4), at(1, 0, 3), at(2, 0, 2), at(3, 0, 1)), 5, 0, nil},
		{"one move", loads(at(0, 0, 4), at(1, 0, 3), at(2, 0, 2), at(3, 0, 1)), 5, 1, plans(goes(0, 0, 1))},
		{"two moves", loads(at(0, 0, 4), at(1, 0, 3), at(2, 0, 2), at(3, 0, 1)), 5, 2, plans(goes(0, 0, 1), goes(1, 0, 2))},

		{"the most work that may be", loads(at(0, 0, most), at(1, 0, most), at(2, 0, most), at(3, 0, most)), 5, 4, plans(goes(0, 0, 1), goes(1, 0, 2), goes(2, 0, 3))},
		{"the most work, to two nodes", loads(at(0, 1, most), at(1, 1, most), at(2, 1, most), at(3, 1, most)), 2, 4, plans(goes(0, 1, 0), goes(1, 1, 0))},
	} {
		if got, e := plan.Balance(c.l, c.nodes, c.moves); !slices.Equal(got, c.want) || e != api.OK {
			t.Errorf("%s: %v, %v; want %v", c.what, got, e, c.want)
		}
	}
}

// P9.3: moves from 0 to MaxQueues, and no other number; loads and nodes that may be.
func TestMoves(t *testing.T) {
	for _, l := range [][]api.Load{nil, loads(at(0, 0, 7), at(1, 0, 3)), loads(at(0, 1, 7))} {
		for _, moves := range []int{0, 1, 2, 3, 4} {
			if _, e := plan.Balance(l, 2, moves); e != api.OK {
				t.Errorf("Balance of %v, %d moves: %v", l, moves, e)
			}
		}
		for _, moves := range []int{math.MinInt, -1 << 32, -4, -1, 5, 6, 1 << 32, 1<<32 + 1, math.MaxInt} {
			if got, e := plan.Balance(l, 2, moves); len(got) != 0 || e != api.ErrRange {
				t.Errorf("Balance of %v, %d moves: %v, %v", l, moves, got, e)
			}
		}
	}
}

// model of the plans, by another way than the program's: nodes as bags of queues, all counted anew ahead of each plan, and candidates thrown out one by one.
type model struct {
	bags  [][]api.Load
	moved map[int]int // how often each queue went
}

func modelOf(l []api.Load, nodes int) model {
	m := model{bags: make([][]api.Load, nodes), moved: map[int]int{}}
	for _, x := range l {
		m.bags[x.Node] = append(m.bags[x.Node], x)
	}
	return m
}

func (m model) work(node int) int {
	n := 0
	for _, x := range m.bags[node] {
		n += x.Work
	}
	return n
}

// ends: the busiest node and the idlest one.
func (m model) ends() (int, int) {
	var order []int
	for node := range m.bags {
		order = append(order, node)
	}
	slices.SortStableFunc(order, func(a, b int) int { return m.work(a) - m.work(b) })
	idle := order[0]
	slices.Sort(order)
	slices.SortStableFunc(order, func(a, b int) int { return m.work(b) - m.work(a) })
	return order[0], idle
}

func (m model) spread() int {
	busy, idle := m.ends()
	return m.work(busy) - m.work(idle)
}

// next: the plan that is to be made now, if there is one; it is done.
func (m model) next() (api.Plan, bool) {
	busy, idle := m.ends()
	gap := m.spread()
	l := slices.Clone(m.bags[busy])
	l = slices.DeleteFunc(l, func(x api.Load) bool { return m.moved[x.Queue] > 0 })
	l = slices.DeleteFunc(l, func(x api.Load) bool { return x.Work == 0 })
	l = slices.DeleteFunc(l, func(x api.Load) bool { return x.Work >= gap })
	slices.SortFunc(l, func(a, b api.Load) int {
		if a.Work != b.Work {
			return b.Work - a.Work
		}
		return a.Queue - b.Queue
	})
	if len(l) == 0 {
		return api.Plan{}, false
	}
	m.moved[l[0].Queue]++
	m.bags[busy] = slices.DeleteFunc(m.bags[busy], func(x api.Load) bool { return x.Queue == l[0].Queue })
	m.bags[idle] = append(m.bags[idle], l[0])
	return api.Plan{Queue: l[0].Queue, From: busy, To: idle}, true
}

func (m model) plans(moves int) []api.Plan {
	var l []api.Plan
	for len(l) < moves {
		p, ok := m.next()
		if !ok {
			break
		}
		l = append(l, p)
	}
	return l
}

// mayBe: are these loads and nodes such that both calls look at them?
func mayBe(l []api.Load, nodes int) api.Errno {
	if nodes <= 0 || nodes >= 6 {
		return api.ErrRange
	}
	for i, x := range l {
		for _, y := range l[:i] {
			if y.Queue >= x.Queue {
				return api.ErrState
			}
		}
		if x.Queue < 0 || x.Queue > 3 || x.Node < 0 || x.Node >= nodes || x.Work < 0 || x.Work > 1<<30 {
			return api.ErrState
		}
	}
	return api.OK
}

// agrees: do both calls answer what the model says?
func agrees(t *testing.T, l []api.Load, nodes, moves int) {
	t.Helper()
	if e := mayBe(l, nodes); e != api.OK {
		refused(t, l, nodes, e)
		return
	}
	spreads(t, l, nodes, modelOf(l, nodes).spread())
	if moves < 0 || moves > 4 {
		if got, e := plan.Balance(l, nodes, moves); len(got) != 0 || e != api.ErrRange {
			t.Errorf("Balance of %v, %d nodes, %d moves: %v, %v", l, nodes, moves, got, e)
		}
		return
	}
	balances(t, l, nodes, moves, modelOf(l, nodes).plans(moves))
}

// each: all lists of loads of these works, at so many nodes, each queue there or not.
func each(nodes int, works []int, look func(l []api.Load)) {
	var grow func(q int, l []api.Load)
	grow = func(q int, l []api.Load) {
		if q == api.MaxQueues {
			look(slices.Clone(l))
			return
		}
		grow(q+1, l)
		for node := range nodes {
			for _, work := range works {
				grow(q+1, append(l, at(q, node, work)))
			}
		}
	}
	grow(0, nil)
}

// P9.2, P9.3: all lists of small works, and of such around the bound, against the model, at each number of moves.
func TestAll(t *testing.T) {
	for nodes := 1; nodes <= 3; nodes++ {
		for _, works := range [][]int{{0, 1, 2, 3}, {1, most / 2, most - 1, most}} {
			each(nodes, works, func(l []api.Load) {
				for moves := range 5 {
					agrees(t, l, nodes, moves)
				}
			})
		}
	}
}

// P9.2, P9.3: all lists of two works at all nodes that there may be.
func TestAllNodes(t *testing.T) {
	for nodes := 4; nodes <= 5; nodes++ {
		each(nodes, []int{2, 3}, func(l []api.Load) { agrees(t, l, nodes, 4) })
	}
}

// die: numbers that look drawn, the same each time.
type die uint64

func (d *die) n(most int) int {
	*d = *d*6364136223846793005 + 1442695040888963407
	return int(uint64(*d>>33) % uint64(most))
}

// draw: loads of some queues.
func (d *die) draw(nodes, work int) []api.Load {
	var l []api.Load
	for q := range api.MaxQueues {
		if d.n(5) > 0 {
			l = append(l, at(q, d.n(nodes), d.n(work)))
		}
	}
	return l
}

// P9.1 to P9.3: drawn loads against the model, also with a number that is a wrong one.
func TestDrawn(t *testing.T) {
	d := die(9)
	for range 20000 {
		nodes := 1 + d.n(5)
		l := d.draw(nodes, []int{3, 30, most + 1}[d.n(3)])
		moves := d.n(5)
		if len(l) > 0 && d.n(4) == 0 {
			x := &l[d.n(len(l))]
			*[]*int{&x.Queue, &x.Node, &x.Work, &nodes, &moves}[d.n(5)] = []int{-1, 0, 1, 4, 5, 6, most, most + 1}[d.n(8)]
		}
		agrees(t, l, nodes, moves)
	}
}

// What comes of P9.3: no plan makes the spread greater, no queue goes twice, and none from where it is not; fewer moves are the first ones of more.
func TestWhatComes(t *testing.T) {
	d := die(93)
	for range 20000 {
		nodes := 1 + d.n(5)
		l := d.draw(nodes, []int{4, 30, most + 1}[d.n(3)])
		whole, e := plan.Balance(l, nodes, api.MaxQueues)
		if e != api.OK {
			t.Fatalf("Balance of %v, %d nodes: %v", l, nodes, e)
		}
		for moves := range api.MaxQueues {
			balances(t, l, nodes, moves, whole[:min(moves, len(whole))])
		}
		gone := map[int]int{}
		for _, p := range whole {
			before, _ := plan.Spread(l, nodes)
			l = done(t, l, p)
			after, _ := plan.Spread(l, nodes)
			gone[p.Queue]++
			if after > before || gone[p.Queue] > 1 {
				t.Errorf("%v of %v: the spread went from %d to %d", p, whole, before, after)
			}
		}
	}
}

// done: the loads behind a plan.
func done(t *testing.T, l []api.Load, p api.Plan) []api.Load {
	t.Helper()
	l = slices.Clone(l)
	for i, x := range l {
		if x.Queue == p.Queue && x.Node == p.From && x.Work > 0 && p.From != p.To {
			l[i].Node = p.To
			return l
		}
	}
	t.Errorf("%v: no such queue can go in %v", p, l)
	return l
}

// Lists: what is handed in stays as it is, its spare room too; what comes out is new memory; asked again, each call answers the same. (P9.2, P9.3)
func TestMemory(t *testing.T) {
	mark := at(-7, -7, -7)
	for _, loaded := range [][]api.Load{
		loads(at(0, 0, 4), at(1, 0, 3), at(2, 0, 2), at(3, 0, 1)),
		loads(at(0, 0, 10), at(1, 0, 2), at(2, 1, 1)),
		loads(at(0, 0, 5)),
		{},
	} {
		room := append(slices.Clone(loaded), mark, mark, mark, mark)
		before := slices.Clone(room)
		l := room[:len(loaded)]
		spread, _ := plan.Spread(l, 3)
		first, _ := plan.Balance(l, 3, 4)
		second, _ := plan.Balance(l, 3, 4)
		want := fmt.Sprint(second)
		first = first[:cap(first)]
		for i := range first {
			first[i] = goes(-9, -9, -9)
		}
		if got := fmt.Sprint(second); got != want {
			t.Errorf("two answers share memory: %v, then %v", want, got)
		}
		if !slices.Equal(room, before) {
			t.Errorf("what was handed in became %v, was %v", room, before)
		}
		third, _ := plan.Balance(l, 3, 4)
		if got := fmt.Sprint(third); got != want {
			t.Errorf("asked again: %v, then %v", want, got)
		}
		spreads(t, l, 3, spread)
	}
}

// Whatever loads there are, and whatever is asked: no call panics, and each answers as the promises say. (P9.1 to P9.3)
func FuzzPlan(f *testing.F) {
	f.Add(0, 0, 7, 1, 0, 3, 3, 1, 2, 2, 4)
	f.Add(0, 0, 1<<30, 2, 4, 1<<30, 3, 4, 1, 5, 1)
	f.Add(1, 0, 1, 1, 0, 1, 2, 0, 1, 1, 0)
	f.Add(0, 2, 1, 1, 0, -1, 4, 0, 1, 6, 5)
	f.Fuzz(func(t *testing.T, queueA, nodeA, workA, queueB, nodeB, workB, queueC, nodeC, workC, nodes, moves int) {
		a, b, c := at(queueA, nodeA, workA), at(queueB, nodeB, workB), at(queueC, nodeC, workC)
		for _, l := range [][]api.Load{nil, {a}, {b}, {c}, {a, b}, {b, c}, {a, b, c}} {
			agrees(t, l, nodes, moves)
		}
	})
}
