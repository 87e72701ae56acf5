package csr_test

import (
	"cmp"
	"math"
	"reflect"
	"slices"
	"testing"

	"acequia/api"
	"acequia/csr"
	"acequia/net"
)

// arc is short for the literals below.
func arc(from, to int, cap int64) api.Arc { return api.Arc{From: from, To: to, Cap: cap} }

// example is the network of the examples of chapters 1 and 2.
func example() api.Net {
	return api.Net{N: 4, S: 0, T: 3, Arcs: []api.Arc{arc(0, 1, 5), arc(0, 2, 4), arc(1, 3, 3), arc(2, 3, 6), arc(1, 2, 2)}}
}

// mixed has self-loops (the last arc among them), parallel arcs, arcs in both directions, one of no capacity, and a vertex (3) without arcs.
func mixed() api.Net {
	return api.Net{N: 5, S: 4, T: 1, Arcs: []api.Arc{
		arc(4, 0, 3), arc(2, 2, 8), arc(0, 4, 2), arc(4, 0, 1), arc(0, 1, 4), arc(1, 2, 0), arc(2, 1, 5), arc(0, 0, 1),
	}}
}

// large has as many vertices and arcs as there may be, with ends and capacities of all kinds.
func large() api.Net {
	n := api.Net{N: 1 << 12, S: 1<<12 - 1, T: 7, Arcs: make([]api.Arc, 1<<14)}
	for i := range n.Arcs {
		n.Arcs[i] = arc(i*i%4093, i*37%4096, int64(i%5)<<40)
	}
	return n
}

// mustMake returns the residual network of a valid network.
func mustMake(t *testing.T, n api.Net) api.Csr {
	t.Helper()
	c, err := csr.Make(n)
	if err != api.OK {
		t.Fatalf("Make(%v) has the error %d", n, err)
	}
	return c
}

// smallNets calls f with all networks of three vertices with up to three arcs of small capacities.
func smallNets(f func(n api.Net)) {
	var arcs []api.Arc
	for from := range 3 {
		for to := range 3 {
			arcs = append(arcs, arc(from, to, 0), arc(from, to, 2))
		}
	}
	n := api.Net{N: 3, S: 1, T: 0}
	f(n)
	for _, a := range arcs {
		n.Arcs = []api.Arc{a}
		f(n)
		for _, b := range arcs {
			n.Arcs = []api.Arc{a, b}
			f(n)
			for _, c := range arcs {
				n.Arcs = []api.Arc{a, b, c}
				f(n)
			}
		}
	}
}

// residual is a residual arc of the chapter, and where it begins.
type residual struct {
	tail, head int
	cap        int64
	arc        int
	back       bool
}

// residuals lists the residual arcs of n by sorting them as the chapter numbers them.
func residuals(n api.Net) []residual {
	var all []residual
	for i, a := range n.Arcs {
		if a.From != a.To {
			all = append(all, residual{a.From, a.To, a.Cap, i, false}, residual{a.To, a.From, 0, i, true})
		}
	}
	slices.SortFunc(all, func(a, b residual) int {
		return cmp.Or(cmp.Compare(a.tail, b.tail), cmp.Compare(a.arc, b.arc))
	})
	return all
}

// wantMake is the chapter's definition of the residual network, written anew.
func wantMake(n api.Net) api.Csr {
	c, all, places := api.Csr{N: n.N, S: n.S, T: n.T}, residuals(n), map[int]int{}
	for v := range n.N + 1 {
		at, _ := slices.BinarySearchFunc(all, v, func(r residual, v int) int { return cmp.Compare(r.tail, v) })
		c.First = append(c.First, at)
	}
	c.Rev = make([]int, len(all))
	for i, r := range all {
		c.Head, c.Cap, c.Arc, c.Back = append(c.Head, r.head), append(c.Cap, r.cap), append(c.Arc, r.arc), append(c.Back, r.back)
		if other, known := places[r.arc]; known {
			c.Rev[i], c.Rev[other] = other, i
		}
		places[r.arc] = i
	}
	return c
}

// same compares field by field; nil and an empty list are the same.
func same(a, b api.Csr) bool {
	return a.N == b.N && a.S == b.S && a.T == b.T && slices.Equal(a.First, b.First) && slices.Equal(a.Head, b.Head) &&
		slices.Equal(a.Rev, b.Rev) && slices.Equal(a.Cap, b.Cap) && slices.Equal(a.Arc, b.Arc) && slices.Equal(a.Back, b.Back)
}

// P2.1: Make and Len, at the chapter's example.
func TestMakeOfTheExample(t *testing.T) {
	c := mustMake(t, example())
	want := api.Csr{
		N: 4, S: 0, T: 3,
		First: []int{0, 2, 5, 8, 10},
		Head:  []int{1, 2, 0, 3, 2, 0, 3, 1, 1, 2},
		Rev:   []int{2, 5, 0, 8, 7, 1, 9, 4, 3, 6},
		Cap:   []int64{5, 4, 0, 3, 2, 0, 6, 0, 0, 0},
		Arc:   []int{0, 1, 0, 2, 4, 1, 3, 4, 2, 3},
		Back:  []bool{false, false, true, false, false, true, false, true, true, true},
	}
	if !same(c, want) {
		t.Errorf("Make is %v, want %v", c, want)
	}
	if csr.Len(c) != 10 {
		t.Errorf("Len is %d", csr.Len(c))
	}
}

// P2.1: Make and Len, with self-loops, parallel arcs, both directions, no capacity, and a vertex without arcs.
func TestMakeOfAMixture(t *testing.T) {
	c := mustMake(t, mixed())
	want := api.Csr{
		N: 5, S: 4, T: 1,
		First: []int{0, 4, 7, 9, 9, 12},
		Head:  []int{4, 4, 4, 1, 0, 2, 2, 1, 1, 0, 0, 0},
		Rev:   []int{9, 10, 11, 4, 3, 7, 8, 5, 6, 0, 1, 2},
		Cap:   []int64{0, 2, 0, 4, 0, 0, 0, 0, 5, 3, 0, 1},
		Arc:   []int{0, 2, 3, 4, 4, 5, 6, 5, 6, 0, 2, 3},
		Back:  []bool{true, false, true, false, true, false, true, true, false, false, true, false},
	}
	if !same(c, want) {
		t.Errorf("Make is %v, want %v", c, want)
	}
	if csr.Len(c) != 12 {
		t.Errorf("Len is %d", csr.Len(c))
	}
}

// P2.1: Make at the edges of what a network may be.
func TestMakeAtTheEdges(t *testing.T) {
	for _, n := range []api.Net{
		{N: 2, S: 0, T: 1},
		{N: 2, S: 1, T: 0, Arcs: []api.Arc{}},
		{N: 2, S: 1, T: 0, Arcs: []api.Arc{arc(0, 0, 4), arc(1, 1, 0)}},
		{N: 2, S: 0, T: 1, Arcs: []api.Arc{arc(0, 1, 1<<62)}},
		{N: 2, S: 0, T: 1, Arcs: []api.Arc{arc(0, 1, 0), arc(1, 0, 0)}},
		{N: 2, S: 0, T: 1, Arcs: slices.Repeat([]api.Arc{arc(0, 1, 1<<48)}, 1<<14)},
		{N: 2, S: 0, T: 1, Arcs: slices.Repeat([]api.Arc{arc(1, 1, 1)}, 1<<14)},
		{N: 1 << 12, S: 0, T: 1<<12 - 1},
		{N: 1 << 12, S: 0, T: 1, Arcs: []api.Arc{arc(1<<12-1, 0, 3)}},
		large(),
	} {
		if c, want := mustMake(t, n), wantMake(n); !same(c, want) || csr.Len(c) != len(want.Head) {
			t.Errorf("N %d, %d arcs: not what sorting gives", n.N, len(n.Arcs))
		}
	}
}

// P2.1, P2.4: Make, Len and Tail are what they are by definition; Rev of Rev is the residual arc itself.
func TestAllSmallNets(t *testing.T) {
	smallNets(func(n api.Net) {
		c, want, all := mustMake(t, n), wantMake(n), residuals(n)
		if !same(c, want) || csr.Len(c) != len(all) {
			t.Fatalf("Make(%v) is %v, want %v", n, c, want)
		}
		checkTails(t, c, all)
		checkReverses(t, c)
	})
	checkReverses(t, mustMake(t, large()))
}

func checkTails(t *testing.T, c api.Csr, all []residual) {
	t.Helper()
	for a, r := range all {
		if v, ok := csr.Tail(c, a); v != r.tail || !ok {
			t.Fatalf("Tail(%v, %d) is %d, %t, want %d", c, a, v, ok, r.tail)
		}
	}
	for _, a := range []int{-1, -2, len(all), len(all) + 1, math.MinInt, math.MaxInt} {
		if v, ok := csr.Tail(c, a); v != 0 || ok {
			t.Fatalf("Tail(%v, %d) is %d, %t: there is no such residual arc", c, a, v, ok)
		}
	}
}

// checkReverses: of the two residual arcs of an arc one is the backward one, and each begins where the other ends.
func checkReverses(t *testing.T, c api.Csr) {
	t.Helper()
	for a := range csr.Len(c) {
		r := c.Rev[a]
		tail, _ := csr.Tail(c, a)
		if c.Rev[r] != a || r == a || c.Arc[r] != c.Arc[a] || c.Back[r] == c.Back[a] || c.Head[r] != tail {
			t.Fatalf("%v: the residual arcs %d and %d are not those of one arc", c, a, r)
		}
	}
}

// P2.1: Tail, where there are many rows, and rows with nothing in them.
func TestTail(t *testing.T) {
	for _, n := range []api.Net{example(), mixed(), large(), {N: 2, T: 1}, {N: 1 << 12, T: 1, Arcs: []api.Arc{arc(9, 4000, 1)}}} {
		checkTails(t, mustMake(t, n), residuals(n))
	}
}

// P2.1, R2: Make of a network that is not valid returns the error of net.Check, of several the first, and nothing else.
func TestMakeOfWrongNets(t *testing.T) {
	for i, x := range []struct {
		change func(n *api.Net)
		want   api.Errno
	}{
		{func(n *api.Net) { *n = api.Net{} }, api.ErrVerts},
		{func(n *api.Net) { n.N = 1 }, api.ErrVerts},
		{func(n *api.Net) { n.N = -1 }, api.ErrVerts},
		{func(n *api.Net) { n.N = 1<<12 + 1 }, api.ErrVerts},
		{func(n *api.Net) { n.N = math.MaxInt }, api.ErrVerts},
		{func(n *api.Net) { n.Arcs = make([]api.Arc, 1<<14+1) }, api.ErrArcs},
		{func(n *api.Net) { n.S = n.T }, api.ErrEnds},
		{func(n *api.Net) { n.S = -1 }, api.ErrEnds},
		{func(n *api.Net) { n.T = 4 }, api.ErrEnds},
		{func(n *api.Net) { n.Arcs[4].To = 4 }, api.ErrArc},
		{func(n *api.Net) { n.Arcs[0].From = -1 }, api.ErrArc},
		{func(n *api.Net) { n.Arcs = append(n.Arcs, arc(9, 9, 1)) }, api.ErrArc},
		{func(n *api.Net) { n.Arcs[4].Cap = -1 }, api.ErrCap},
		{func(n *api.Net) { n.Arcs = append(n.Arcs, arc(2, 2, -1)) }, api.ErrCap},
		{func(n *api.Net) { n.Arcs[0].Cap = 1 << 62 }, api.ErrSum},
		{func(n *api.Net) { n.Arcs = append(n.Arcs, arc(2, 2, 1<<62)) }, api.ErrSum},
		{func(n *api.Net) { n.S, n.Arcs[0].Cap, n.Arcs[1].To = 9, -1, 9 }, api.ErrEnds},
		{func(n *api.Net) { n.Arcs[0].Cap, n.Arcs[1].To = -1, 9 }, api.ErrArc},
	} {
		n := example()
		x.change(&n)
		c, err := csr.Make(n)
		if err != x.want || err != net.Check(n) {
			t.Errorf("change %d: the error is %d, want %d", i, err, x.want)
		}
		if !reflect.DeepEqual(c, api.Csr{}) || csr.Len(c) != 0 {
			t.Errorf("change %d: beside the error there is %v", i, c)
		}
	}
}
