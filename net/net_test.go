package net_test

import (
	"math"
	"math/big"
	"slices"
	"testing"

	"acequia/api"
	"acequia/net"
)

// arc is short for the literals below.
func arc(from, to int, cap int64) api.Arc { return api.Arc{From: from, To: to, Cap: cap} }

// example is the network of the chapter's examples.
func example() api.Net {
	return api.Net{N: 4, S: 0, T: 3, Arcs: []api.Arc{arc(0, 1, 5), arc(0, 2, 4), arc(1, 3, 3), arc(2, 3, 6), arc(1, 2, 2)}}
}

// caps is a network of two vertices with arcs of these capacities.
func caps(cs ...int64) api.Net {
	n := api.Net{N: 2, S: 0, T: 1}
	for _, c := range cs {
		n.Arcs = append(n.Arcs, arc(0, 1, c))
	}
	return n
}

// repeat is c, so many times.
func repeat(c int64, times int) []int64 { return slices.Repeat([]int64{c}, times) }

// same compares field by field, without the function that is tested.
func same(a, b api.Net) bool {
	if a.N != b.N || a.S != b.S || a.T != b.T || len(a.Arcs) != len(b.Arcs) {
		return false
	}
	for i := range a.Arcs {
		if a.Arcs[i] != b.Arcs[i] {
			return false
		}
	}
	return true
}

// P1.1: Check, condition by condition, at the edges of each.
func TestCheckConditions(t *testing.T) {
	for _, x := range []struct {
		name   string
		change func(n *api.Net)
		want   api.Errno
	}{
		{"example", func(n *api.Net) {}, api.OK},
		{"no arcs", func(n *api.Net) { n.Arcs = nil }, api.OK},
		{"an empty list of arcs", func(n *api.Net) { n.Arcs = []api.Arc{} }, api.OK},
		{"2 vertices", func(n *api.Net) { n.N, n.T, n.Arcs = 2, 1, nil }, api.OK},
		{"1 vertex", func(n *api.Net) { n.N, n.T, n.Arcs = 1, 0, nil }, api.ErrVerts},
		{"0 vertices", func(n *api.Net) { *n = api.Net{} }, api.ErrVerts},
		{"-1 vertices", func(n *api.Net) { n.N = -1 }, api.ErrVerts},
		{"the least N", func(n *api.Net) { n.N = math.MinInt }, api.ErrVerts},
		{"2^12 vertices", func(n *api.Net) { n.N, n.T = 1<<12, 1<<12-1 }, api.OK},
		{"2^12 + 1 vertices", func(n *api.Net) { n.N = 1<<12 + 1 }, api.ErrVerts},
		{"the greatest N", func(n *api.Net) { n.N = math.MaxInt }, api.ErrVerts},
		{"2^14 arcs", func(n *api.Net) { n.Arcs = make([]api.Arc, 1<<14) }, api.OK},
		{"2^14 + 1 arcs", func(n *api.Net) { n.Arcs = make([]api.Arc, 1<<14+1) }, api.ErrArcs},
		{"S is T, as in the example", func(n *api.Net) { n.S = 3 }, api.ErrEnds},
		{"S is T, both the first vertex", func(n *api.Net) { n.T = 0 }, api.ErrEnds},
		{"S below", func(n *api.Net) { n.S = -1 }, api.ErrEnds},
		{"S above", func(n *api.Net) { n.S = 4 }, api.ErrEnds},
		{"T below", func(n *api.Net) { n.T = -1 }, api.ErrEnds},
		{"T above", func(n *api.Net) { n.T = 4 }, api.ErrEnds},
		{"S is the least int", func(n *api.Net) { n.S = math.MinInt }, api.ErrEnds},
		{"T is the greatest int", func(n *api.Net) { n.T = math.MaxInt }, api.ErrEnds},
		{"S above T", func(n *api.Net) { n.S, n.T = 3, 0 }, api.OK},
		{"an arc to no vertex", func(n *api.Net) { n.Arcs = append(n.Arcs, arc(0, 4, 1)) }, api.ErrArc},
		{"an arc from no vertex", func(n *api.Net) { n.Arcs[0].From = 4 }, api.ErrArc},
		{"an arc from below", func(n *api.Net) { n.Arcs[4].From = -1 }, api.ErrArc},
		{"an arc to below", func(n *api.Net) { n.Arcs[2].To = -1 }, api.ErrArc},
		{"a self-loop at no vertex", func(n *api.Net) { n.Arcs = append(n.Arcs, arc(4, 4, 0)) }, api.ErrArc},
		{"a self-loop", func(n *api.Net) { n.Arcs = append(n.Arcs, arc(2, 2, 7)) }, api.OK},
		{"self-loops at S and T", func(n *api.Net) { n.Arcs = append(n.Arcs, arc(0, 0, 7), arc(3, 3, 7)) }, api.OK},
		{"parallel arcs", func(n *api.Net) { n.Arcs = append(n.Arcs, n.Arcs...) }, api.OK},
		{"arcs into S and out of T", func(n *api.Net) { n.Arcs = append(n.Arcs, arc(1, 0, 7), arc(3, 1, 7), arc(3, 0, 7)) }, api.OK},
		{"a capacity of 0", func(n *api.Net) { n.Arcs[0].Cap = 0 }, api.OK},
		{"a capacity of -1", func(n *api.Net) { n.Arcs[4].Cap = -1 }, api.ErrCap},
		{"the least capacity", func(n *api.Net) { n.Arcs[0].Cap = math.MinInt64 }, api.ErrCap},
		{"a self-loop with -1", func(n *api.Net) { n.Arcs = append(n.Arcs, arc(2, 2, -1)) }, api.ErrCap},
		{"a sum above MaxSum by a self-loop", func(n *api.Net) { n.Arcs = append(n.Arcs, arc(2, 2, 1<<62)) }, api.ErrSum},
	} {
		n := example()
		x.change(&n)
		if got := net.Check(n); got != x.want {
			t.Errorf("%s: Check is %d, want %d", x.name, got, x.want)
		}
	}
}

// P1.1: of several errors the first one is told: each fault is added to all those that come behind it.
func TestCheckOrder(t *testing.T) {
	n := example()
	n.Arcs = append(n.Arcs, arc(0, 1, 1<<62), arc(0, 1, 1<<62))
	for _, x := range []struct {
		change func()
		want   api.Errno
	}{
		{func() {}, api.ErrSum},
		{func() { n.Arcs = append(n.Arcs, arc(0, 1, -1)) }, api.ErrCap},
		{func() { n.Arcs = append(n.Arcs, arc(0, 4, 1)) }, api.ErrArc},
		{func() { n.T = n.S }, api.ErrEnds},
		{func() { n.Arcs = append(n.Arcs, make([]api.Arc, 1<<14)...) }, api.ErrArcs},
		{func() { n.N = 1<<12 + 1 }, api.ErrVerts},
	} {
		x.change()
		if got := net.Check(n); got != x.want {
			t.Errorf("Check is %d, want %d", got, x.want)
		}
	}
}

// P1.1: the order of errors does not hang on which arc comes first.
func TestCheckOrderAmongArcs(t *testing.T) {
	badEnd, badCap, great := arc(0, 4, 1), arc(0, 1, -1), arc(0, 1, math.MaxInt64)
	for _, x := range []struct {
		arcs []api.Arc
		want api.Errno
	}{
		{[]api.Arc{badEnd, badCap, great}, api.ErrArc},
		{[]api.Arc{great, badCap, badEnd}, api.ErrArc},
		{[]api.Arc{badCap, badEnd}, api.ErrArc},
		{[]api.Arc{arc(4, 0, -1)}, api.ErrArc},
		{[]api.Arc{great, badCap}, api.ErrCap},
		{[]api.Arc{badCap, great}, api.ErrCap},
		{[]api.Arc{great}, api.ErrSum},
	} {
		n := api.Net{N: 4, S: 0, T: 3, Arcs: x.arcs}
		if got := net.Check(n); got != x.want {
			t.Errorf("Check(%v) is %d, want %d", n, got, x.want)
		}
	}
}

// wantSum adds without bounds, so that nothing wraps round.
func wantSum(n api.Net) (int64, bool) {
	sum := new(big.Int)
	for _, a := range n.Arcs {
		if a.Cap < 0 {
			return 0, false
		}
		sum.Add(sum, big.NewInt(a.Cap))
	}
	if sum.Cmp(new(big.Int).Lsh(big.NewInt(1), 62)) > 0 {
		return 0, false
	}
	return sum.Int64(), true
}

// P1.1: Sum, and Check's last condition beside it.
func TestSum(t *testing.T) {
	for _, x := range []struct {
		name string
		net  api.Net
		sum  int64
		ok   bool
		err  api.Errno
	}{
		{"example", example(), 20, true, api.OK},
		{"no arcs", caps(), 0, true, api.OK},
		{"zeros", caps(0, 0), 0, true, api.OK},
		{"MaxSum by one", caps(1 << 62), 1 << 62, true, api.OK},
		{"MaxSum by two", caps(1<<61, 1<<61), 1 << 62, true, api.OK},
		{"MaxSum, and 0", caps(1<<62, 0), 1 << 62, true, api.OK},
		{"MaxSum less 1", caps(1<<62-1, 0), 1<<62 - 1, true, api.OK},
		{"one more by one", caps(1<<62 + 1), 0, false, api.ErrSum},
		{"one more by two", caps(1<<62, 1), 0, false, api.ErrSum},
		{"one more by three", caps(1<<61, 1, 1<<61), 0, false, api.ErrSum},
		{"twice MaxSum: below 0 if it wraps round", caps(1<<62, 1<<62), 0, false, api.ErrSum},
		{"four times MaxSum: 0 if it wraps round", caps(1<<62, 1<<62, 1<<62, 1<<62), 0, false, api.ErrSum},
		{"the greatest capacities", caps(math.MaxInt64, math.MaxInt64, 2), 0, false, api.ErrSum},
		{"2^14 arcs, MaxSum", caps(repeat(1<<48, 1<<14)...), 1 << 62, true, api.OK},
		{"2^14 arcs, more", caps(append(repeat(1<<48, 1<<14-1), 1<<48+1)...), 0, false, api.ErrSum},
		{"2^14 arcs of the greatest", caps(repeat(math.MaxInt64, 1<<14)...), 0, false, api.ErrSum},
		{"negative", caps(-1), 0, false, api.ErrCap},
		{"negative, made good by another", caps(5, -1), 0, false, api.ErrCap},
		{"negative behind what is too great", caps(math.MaxInt64, -1), 0, false, api.ErrCap},
		{"negative ahead of what is too great", caps(math.MinInt64, math.MaxInt64), 0, false, api.ErrCap},
	} {
		if sum, ok := net.Sum(x.net); sum != x.sum || ok != x.ok {
			t.Errorf("%s: Sum is %d, %t, want %d, %t", x.name, sum, ok, x.sum, x.ok)
		}
		if sum, ok := wantSum(x.net); sum != x.sum || ok != x.ok {
			t.Errorf("%s: the table says %d, %t, big numbers %d, %t", x.name, x.sum, x.ok, sum, ok)
		}
		if err := net.Check(x.net); err != x.err {
			t.Errorf("%s: Check is %d, want %d", x.name, err, x.err)
		}
	}
}

// P1.1: Sum speaks of capacities alone, whatever else is wrong with the network.
func TestSumOfWrongNets(t *testing.T) {
	many := make([]api.Arc, 1<<14+5)
	for i := range many {
		many[i] = arc(-7, math.MaxInt, 2)
	}
	n := api.Net{N: -3, S: 9, T: 9, Arcs: many}
	if sum, ok := net.Sum(n); sum != 2*(1<<14+5) || !ok {
		t.Error(sum, ok)
	}
	if sum, ok := net.Sum(api.Net{}); sum != 0 || !ok {
		t.Error(sum, ok)
	}
}

// P1.2: Turn, of networks that are valid and of ones that are not.
func TestTurn(t *testing.T) {
	for _, x := range []struct{ net, want api.Net }{
		{api.Net{}, api.Net{}},
		{
			example(),
			api.Net{N: 4, S: 3, T: 0, Arcs: []api.Arc{arc(1, 0, 5), arc(2, 0, 4), arc(3, 1, 3), arc(3, 2, 6), arc(2, 1, 2)}},
		},
		{
			api.Net{N: 3, S: 2, T: 1, Arcs: []api.Arc{arc(1, 1, 9), arc(0, 2, 3), arc(0, 2, 4), arc(2, 0, 5)}},
			api.Net{N: 3, S: 1, T: 2, Arcs: []api.Arc{arc(1, 1, 9), arc(2, 0, 3), arc(2, 0, 4), arc(0, 2, 5)}},
		},
		{
			api.Net{N: -1, S: 8, T: -8, Arcs: []api.Arc{arc(math.MinInt, 7, math.MinInt64)}},
			api.Net{N: -1, S: -8, T: 8, Arcs: []api.Arc{arc(7, math.MinInt, math.MinInt64)}},
		},
	} {
		if got := net.Turn(x.net); !same(got, x.want) {
			t.Errorf("Turn(%v) is %v, want %v", x.net, got, x.want)
		}
	}
}

// P1.2: Same tells apart what differs in one thing.
func TestSame(t *testing.T) {
	if !net.Same(example(), example()) {
		t.Error("a network is not the same as itself")
	}
	for i, change := range []func(n *api.Net){
		func(n *api.Net) { n.N = 5 },
		func(n *api.Net) { n.S = 1 },
		func(n *api.Net) { n.T = 1 },
		func(n *api.Net) { n.S, n.T = n.T, n.S },
		func(n *api.Net) { n.Arcs = n.Arcs[:4] },
		func(n *api.Net) { n.Arcs = n.Arcs[1:] },
		func(n *api.Net) { n.Arcs = nil },
		func(n *api.Net) { n.Arcs = append(n.Arcs, api.Arc{}) },
		func(n *api.Net) { n.Arcs[4].From = 0 },
		func(n *api.Net) { n.Arcs[4].To = 0 },
		func(n *api.Net) { n.Arcs[4].Cap = 0 },
		func(n *api.Net) { n.Arcs[0].Cap = -5 },
		func(n *api.Net) { n.Arcs[0], n.Arcs[1] = n.Arcs[1], n.Arcs[0] },
	} {
		n := example()
		change(&n)
		if net.Same(n, example()) || net.Same(example(), n) {
			t.Errorf("change %d is not seen", i)
		}
		if !net.Same(n, n) {
			t.Errorf("change %d is not the same as itself", i)
		}
	}
}

// P1.2, R6: no list and an empty one are the same; so are lists with other spare room.
func TestSameOfEmptyLists(t *testing.T) {
	none, empty := caps(), caps()
	empty.Arcs = make([]api.Arc, 0, 7)
	if !net.Same(none, empty) || !net.Same(empty, none) || !net.Same(api.Net{}, api.Net{}) {
		t.Error("nil and an empty list differ")
	}
	n := example()
	n.Arcs = slices.Grow(n.Arcs, 100)
	if !net.Same(n, example()) {
		t.Error("spare room makes a difference")
	}
}

// P1.2: Copy returns the same network, valid or not.
func TestCopy(t *testing.T) {
	for _, n := range []api.Net{
		{},
		example(),
		caps(),
		caps(3, 3, 3),
		{N: -1, S: 9, T: 9, Arcs: []api.Arc{arc(-4, 7, -2)}},
		{N: 2, T: 1, Arcs: make([]api.Arc, 1<<14+1)},
	} {
		if got := net.Copy(n); !same(got, n) || !net.Same(got, n) {
			t.Errorf("Copy(%v) is %v", n, got)
		}
	}
}
