package pre_test

import (
	"fmt"
	"math"
	"slices"
	"testing"

	"acequia/api"
	"acequia/csr"
	"acequia/flow"
	"acequia/pre"
)

// arc is short for the literals below.
func arc(from, to int, cap int64) api.Arc { return api.Arc{From: from, To: to, Cap: cap} }

// example is the network of chapter 1. Its residual arcs are 0: 0>1, 1: 0>2; 2: 0>1 (back), 3: 1>3, 4: 1>2; 5: 0>2 (back), 6: 2>3, 7: 1>2 (back); 8: 1>3 (back), 9: 2>3 (back).
func example() api.Net {
	return api.Net{N: 4, S: 0, T: 3, Arcs: []api.Arc{arc(0, 1, 5), arc(0, 2, 4), arc(1, 3, 3), arc(2, 3, 6), arc(1, 2, 2)}}
}

// line has one way from S to T, which ends at an arc of no capacity. Its residual arcs are 0: 0>1; 1: 0>1 (back), 2: 1>2; 3: 1>2 (back), 4: 2>3; 5: 2>3 (back), 6: 3>4; 7: 3>4 (back).
func line() api.Net {
	return api.Net{N: 5, S: 0, T: 4, Arcs: []api.Arc{arc(0, 1, 6), arc(1, 2, 4), arc(2, 3, 4), arc(3, 4, 0)}}
}

// fan has a vertex (1) from which arcs lead to all others but S. Its residual arcs are 0: 0>1; 1: 0>1 (back), 2: 1>2, 3: 1>3, 4: 1>4; 5: 1>2 (back); 6: 1>3 (back); 7: 1>4 (back).
func fan() api.Net {
	return api.Net{N: 5, S: 0, T: 4, Arcs: []api.Arc{arc(0, 1, 9), arc(1, 2, 3), arc(1, 3, 3), arc(1, 4, 3)}}
}

// tangle has self-loops, parallel arcs, arcs against each other, an arc of no capacity, one out of T, and a vertex (3) without arcs.
// Its residual arcs are 0: 4>0 (back), 1: 0>4, 2: 4>0 (back), 3: 0>1; 4: 0>1 (back), 5: 1>2, 6: 2>1 (back); 7: 1>2 (back), 8: 2>1, 9: 4>2 (back); 10: 4>0, 11: 0>4 (back), 12: 4>0, 13: 4>2.
func tangle() api.Net {
	return api.Net{N: 5, S: 4, T: 1, Arcs: []api.Arc{
		arc(4, 0, 3), arc(2, 2, 8), arc(0, 4, 2), arc(4, 0, 1), arc(0, 1, 4), arc(1, 2, 0), arc(2, 1, 5), arc(0, 0, 1), arc(4, 2, 2),
	}}
}

// large has as many vertices and arcs as there may be, with ends of all kinds.
func large() api.Net {
	n := api.Net{N: 1 << 12, S: 9, T: 1<<12 - 1, Arcs: make([]api.Arc, 1<<14)}
	for i := range n.Arcs {
		n.Arcs[i] = arc(i*i%4093, i*37%4096, int64(i%5)<<40)
	}
	return n
}

// mustMake returns the residual network of a valid network.
func mustMake(t *testing.T, n api.Net) api.Csr {
	t.Helper()
	c, err := csr.Make(n)
	if err != api.OK {
		t.Fatalf("Make(%v) has the error %d", n, err)
	}
	return c
}

// state is what layers 2 and 3 say of the numbers f, with the heights h.
func state(t *testing.T, n api.Net, c api.Csr, f []int64, h []int) api.Pre {
	t.Helper()
	res, err := csr.Res(c, f)
	if err != api.OK {
		t.Fatalf("Res of %v has the error %d", f, err)
	}
	excess, err := flow.Excess(n, f)
	if err != api.OK {
		t.Fatalf("Excess of %v has the error %d", f, err)
	}
	return api.Pre{Res: res, Ex: excess, H: slices.Clone(h)}
}

// equal tells whether two states are the same.
func equal(p, q api.Pre) bool {
	return slices.Equal(p.Res, q.Res) && slices.Equal(p.Ex, q.Ex) && slices.Equal(p.H, q.H)
}

// isZero tells whether p is what stands beside an error.
func isZero(p api.Pre) bool { return p.Res == nil && p.Ex == nil && p.H == nil }

// brief is the beginning of what x looks like, as the largest networks would fill pages.
func brief(x any) string { return fmt.Sprintf("%.300s", fmt.Sprint(x)) }

// tailOf is the vertex in whose row a is; -1 if it is in none.
func tailOf(c api.Csr, a int) int {
	for u := range c.N {
		if c.First[u] <= a && a < c.First[u+1] {
			return u
		}
	}
	return -1
}

// wantBegin is the chapter's definition of the first state, written anew, number by number.
func wantBegin(c api.Csr) api.Pre {
	p := api.Pre{Res: make([]int64, csr.Len(c)), Ex: make([]int64, c.N), H: make([]int, c.N)}
	for a := range p.Res {
		switch {
		case c.First[c.S] <= a && a < c.First[c.S+1]:
			p.Res[a] = 0
		case c.Head[a] == c.S:
			p.Res[a] = c.Cap[a] + c.Cap[c.Rev[a]]
		default:
			p.Res[a] = c.Cap[a]
		}
		// What a forward residual arc has less than its capacity is on its arc.
		if !c.Back[a] {
			p.Ex[c.Head[c.Rev[a]]] -= c.Cap[a] - p.Res[a]
			p.Ex[c.Head[a]] += c.Cap[a] - p.Res[a]
		}
	}
	p.H[c.S] = c.N
	return p
}

// wantRight is the chapter's definition of a valid state, written anew.
func wantRight(n api.Net, c api.Csr, p api.Pre) bool {
	f, err := csr.Flow(c, p.Res, len(n.Arcs))
	if err != api.OK || !flow.Pre(n, f) || len(p.H) != c.N {
		return false
	}
	excess, err := flow.Excess(n, f)
	if err != api.OK || !slices.Equal(p.Ex, excess) || p.H[c.S] != c.N || p.H[c.T] != 0 || slices.Min(p.H) < 0 || slices.Max(p.H) >= 2*c.N {
		return false
	}
	for i, a := range n.Arcs {
		if f[i] < a.Cap && p.H[a.From] > p.H[a.To]+1 || f[i] > 0 && p.H[a.To] > p.H[a.From]+1 {
			return false
		}
	}
	return true
}

// checkRight compares Right to what it should be.
func checkRight(t *testing.T, name string, c api.Csr, p api.Pre, want bool) {
	t.Helper()
	if got := pre.Right(c, p); got != want {
		t.Errorf("%s: Right(%s, %s) is %t", name, brief(c), brief(p), got)
	}
}

// P7.1 to P7.4: the chapter's example.
func TestExample(t *testing.T) {
	c := mustMake(t, example())
	p := pre.Begin(c)
	if p.Ex[1] != 5 || p.Ex[2] != 4 || p.Ex[0] != -9 || !slices.Equal(pre.Active(c, p), []int{1, 2}) {
		t.Fatalf("the first state is %v, and active are %v", p, pre.Active(c, p))
	}
	checkMay(t, "at first", c, p, nil, []int{1, 2})
	p, err := pre.Lift(c, p, 1)
	if err != api.OK || p.H[1] != 1 {
		t.Fatalf("Lift of 1 is %v, %d", p, err)
	}
	checkMay(t, "with 1 lifted", c, p, []int{3, 4}, []int{2})
	p, d, err := pre.Push(c, p, 3)
	if err != api.OK || d != 3 || !slices.Equal(p.Ex, []int64{-9, 2, 4, 3}) {
		t.Fatalf("Push along 3 is %v, %d, %d", p, d, err)
	}
	checkMay(t, "with 3 pushed", c, p, []int{4}, []int{2})
	p, d, err = pre.Push(c, p, 4)
	if err != api.OK || d != 2 || !slices.Equal(p.Ex, []int64{-9, 0, 6, 3}) || !pre.Right(c, p) {
		t.Fatalf("Push along 4 is %v, %d, %d", p, d, err)
	}
	checkMay(t, "with 2 pushed", c, p, nil, []int{2})
}

// P7.1: the first state of networks with arcs of all kinds.
func TestBegin(t *testing.T) {
	for _, x := range []struct {
		name string
		n    api.Net
		res  []int64
		ex   []int64
		h    []int
	}{
		{"chapter 1", example(), []int64{0, 0, 5, 3, 2, 4, 6, 0, 0, 0}, []int64{-9, 5, 4, 0}, []int{4, 0, 0, 0}},
		{"no arcs", api.Net{N: 3, S: 1, T: 2}, nil, []int64{0, 0, 0}, []int{0, 3, 0}},
		{"S to T", api.Net{N: 2, S: 0, T: 1, Arcs: []api.Arc{arc(0, 1, 7)}}, []int64{0, 7}, []int64{-7, 7}, []int{2, 0}},
		{"S is behind T", api.Net{N: 2, S: 1, T: 0, Arcs: []api.Arc{arc(1, 0, 7)}}, []int64{7, 0}, []int64{7, -7}, []int{0, 2}},
		{"into S", api.Net{N: 3, S: 0, T: 2, Arcs: []api.Arc{arc(1, 0, 7), arc(2, 0, 4)}}, []int64{0, 0, 7, 4}, []int64{0, 0, 0}, []int{3, 0, 0}},
		{"out of T", api.Net{N: 3, S: 0, T: 2, Arcs: []api.Arc{arc(2, 1, 7)}}, []int64{0, 7}, []int64{0, 0, 0}, []int{3, 0, 0}},
		{"against each other at S", api.Net{N: 2, S: 0, T: 1, Arcs: []api.Arc{arc(0, 1, 7), arc(1, 0, 3)}}, []int64{0, 0, 7, 3}, []int64{-7, 7}, []int{2, 0}},
		{"against each other elsewhere", api.Net{N: 4, S: 0, T: 3, Arcs: []api.Arc{arc(1, 2, 7), arc(2, 1, 3)}}, []int64{7, 0, 0, 3}, []int64{0, 0, 0, 0}, []int{4, 0, 0, 0}},
		{"parallel", api.Net{N: 3, S: 0, T: 2, Arcs: []api.Arc{arc(0, 1, 7), arc(0, 1, 2), arc(1, 2, 1), arc(1, 2, 3)}}, []int64{0, 0, 7, 2, 1, 3, 0, 0}, []int64{-9, 9, 0}, []int{3, 0, 0}},
		{"self-loops", api.Net{N: 3, S: 0, T: 2, Arcs: []api.Arc{arc(0, 0, 7), arc(1, 1, 2), arc(0, 1, 3), arc(2, 2, 9)}}, []int64{0, 3}, []int64{-3, 3, 0}, []int{3, 0, 0}},
		{"no capacity", api.Net{N: 3, S: 0, T: 2, Arcs: []api.Arc{arc(0, 1, 0), arc(1, 2, 0), arc(2, 0, 0)}}, []int64{0, 0, 0, 0, 0, 0}, []int64{0, 0, 0}, []int{3, 0, 0}},
		{"the greatest capacity", api.Net{N: 2, S: 0, T: 1, Arcs: []api.Arc{arc(0, 1, 1<<62)}}, []int64{0, 1 << 62}, []int64{-1 << 62, 1 << 62}, []int{2, 0}},
		{"the greatest capacity into S", api.Net{N: 2, S: 0, T: 1, Arcs: []api.Arc{arc(1, 0, 1<<62)}}, []int64{0, 1 << 62}, []int64{0, 0}, []int{2, 0}},
		{"the greatest capacities together", api.Net{N: 3, S: 0, T: 2, Arcs: []api.Arc{arc(0, 1, 1<<61), arc(0, 1, 1<<61)}}, []int64{0, 0, 1 << 61, 1 << 61}, []int64{-1 << 62, 1 << 62, 0}, []int{3, 0, 0}},
		{"of all kinds", tangle(), []int64{3, 2, 1, 4, 0, 0, 0, 0, 5, 2, 0, 0, 0, 0}, []int64{4, 0, 2, 0, -6}, []int{0, 0, 0, 0, 5}},
	} {
		c := mustMake(t, x.n)
		want := api.Pre{Res: x.res, Ex: x.ex, H: x.h}
		if got := pre.Begin(c); !equal(got, want) {
			t.Errorf("%s: the first state is %v, want %v", x.name, got, want)
		}
		checkRight(t, x.name, c, want, true)
	}
}

// P7.1: the first state is what it is by definition, and what is on the arcs from S then, for all small networks, and a network as large as there may be.
func TestBeginByDefinition(t *testing.T) {
	check := func(n api.Net) {
		c := mustMake(t, n)
		p := pre.Begin(c)
		if want := wantBegin(c); !equal(p, want) {
			t.Fatalf("%s: the first state is %s, want %s", brief(n), brief(p), brief(want))
		}
		f := make([]int64, len(n.Arcs))
		for i, a := range n.Arcs {
			if a.From == c.S && a.To != c.S {
				f[i] = a.Cap
			}
		}
		h := make([]int, n.N)
		h[n.S] = n.N
		if want := state(t, n, c, f, h); !equal(p, want) {
			t.Fatalf("%s: the first state is %s, want %s", brief(n), brief(p), brief(want))
		}
	}
	smallNets(check)
	widerNets(check)
	check(large())
}

// P7.1: states of the network of chapter 1 that are valid, and such that are not for one reason alone.
func TestRight(t *testing.T) {
	n := example()
	c := mustMake(t, n)
	// The excesses are -9, 1, 1, 7; open are 1>0, 1>2, 2>0, 2>3, 2>1, 3>1, 3>2.
	full := state(t, n, c, []int64{5, 4, 3, 4, 1}, []int{4, 1, 1, 0})
	checkRight(t, "as it is", c, full, true)
	for _, x := range []struct {
		name   string
		change func(p *api.Pre)
		want   bool
	}{
		{"a residual capacity too few", func(p *api.Pre) { p.Res = p.Res[:9] }, false},
		{"a residual capacity too many", func(p *api.Pre) { p.Res = append(p.Res, 0) }, false},
		{"no residual capacities", func(p *api.Pre) { p.Res = nil }, false},
		{"an excess too few", func(p *api.Pre) { p.Ex = p.Ex[:3] }, false},
		{"an excess too many", func(p *api.Pre) { p.Ex = append(p.Ex, 0) }, false},
		{"no excesses", func(p *api.Pre) { p.Ex = nil }, false},
		{"a height too few", func(p *api.Pre) { p.H = p.H[:3] }, false},
		{"a height too many", func(p *api.Pre) { p.H = append(p.H, 0) }, false},
		{"no heights", func(p *api.Pre) { p.H = nil }, false},
		{"a residual capacity that is greater by 1", func(p *api.Pre) { p.Res[3]++ }, false},
		{"a residual capacity that is less by 1", func(p *api.Pre) { p.Res[6]-- }, false},
		{"a residual capacity of the last one that is greater by 1", func(p *api.Pre) { p.Res[9]++ }, false},
		{"a residual capacity that is negative", func(p *api.Pre) { p.Res[0], p.Res[2], p.Ex[0], p.Ex[1] = -1, 6, -10, 2 }, false},
		{"a reverse one that is negative", func(p *api.Pre) { p.Res[3], p.Res[8], p.Ex[1], p.Ex[3] = 4, -1, 5, 3 }, false},
		{"residual capacities that are all 0", func(p *api.Pre) { clear(p.Res) }, false},
		{"an excess that is greater by 1", func(p *api.Pre) { p.Ex[1]++ }, false},
		{"an excess that is less by 1", func(p *api.Pre) { p.Ex[2]-- }, false},
		{"another excess of S", func(p *api.Pre) { p.Ex[0]++ }, false},
		{"another excess of T", func(p *api.Pre) { p.Ex[3]-- }, false},
		{"two other excesses with the same sum", func(p *api.Pre) { p.Ex[1]--; p.Ex[2]++ }, false},
		{"S is lower than N", func(p *api.Pre) { p.H[0] = 3 }, false},
		{"S is higher than N", func(p *api.Pre) { p.H[0] = 5 }, false},
		{"T is higher than 0", func(p *api.Pre) { p.H[3] = 1 }, false},
		{"T is lower than 0", func(p *api.Pre) { p.H[2], p.H[3] = 0, -1 }, false},
		{"another one is lower than 0", func(p *api.Pre) { p.H[1], p.H[2] = -1, 0 }, false},
		{"two are at 0", func(p *api.Pre) { p.H[1], p.H[2] = 0, 0 }, true},
		{"an open residual arc leads down by 1", func(p *api.Pre) { p.H[1] = 2 }, true},
		{"an open residual arc leads down by 2", func(p *api.Pre) { p.H[1] = 3 }, false},
		{"an open residual arc leads down to T by 2", func(p *api.Pre) { p.H[2] = 2 }, false},
		{"another state altogether", func(p *api.Pre) { *p = pre.Begin(c) }, true},
		{"nothing", func(p *api.Pre) { *p = api.Pre{} }, false},
	} {
		p := api.Pre{Res: slices.Clone(full.Res), Ex: slices.Clone(full.Ex), H: slices.Clone(full.H)}
		x.change(&p)
		checkRight(t, x.name, c, p, x.want)
		if got := wantRight(n, c, p); got != x.want {
			t.Errorf("%s: by definition it is %t", x.name, got)
		}
	}
}

// P7.1: no vertex but S may have a negative excess, and S may have any.
func TestRightExcesses(t *testing.T) {
	n := api.Net{N: 4, S: 1, T: 2, Arcs: []api.Arc{arc(1, 0, 2), arc(0, 2, 2), arc(2, 3, 2), arc(3, 2, 1), arc(3, 3, 5)}}
	c := mustMake(t, n)
	for _, x := range []struct {
		name string
		f    []int64
		want bool
	}{
		{"0 has 2", []int64{2, 0, 0, 0, 0}, true},
		{"0 has 2, and a self-loop is full", []int64{2, 0, 0, 0, 5}, true},
		{"T has 2", []int64{2, 2, 0, 0, 0}, true},
		{"T and 3 have 1", []int64{2, 2, 1, 0, 0}, true},
		{"3 has 2", []int64{2, 2, 2, 0, 0}, true},
		{"all but S have something", []int64{2, 1, 1, 0, 0}, true},
		{"some goes around", []int64{2, 1, 2, 1, 1}, true},
		{"T has -1", []int64{2, 1, 2, 0, 0}, false},
		{"T has -2", []int64{2, 0, 2, 0, 0}, false},
		{"3 has -1", []int64{2, 2, 0, 1, 0}, false},
	} {
		checkRight(t, x.name, c, state(t, n, c, x.f, []int{0, 4, 0, 0}), x.want)
	}
	drained := api.Net{N: 3, S: 0, T: 2, Arcs: []api.Arc{arc(0, 1, 2), arc(1, 2, 2)}}
	c = mustMake(t, drained)
	checkRight(t, "as much comes in as goes out", c, state(t, drained, c, []int64{2, 2}, []int{3, 0, 0}), true)
	checkRight(t, "1 more goes out", c, state(t, drained, c, []int64{1, 2}, []int{3, 2, 0}), false)
}

// P7.1: heights up to 2N - 1, of vertices without arcs, and of such from which S is as near as can be.
func TestRightHeights(t *testing.T) {
	// 0 and 1 send all back to S; 3 has no arcs.
	n := api.Net{N: 5, S: 2, T: 4, Arcs: []api.Arc{arc(2, 0, 3), arc(0, 1, 3)}}
	c := mustMake(t, n)
	for _, x := range []struct {
		name string
		f    []int64
		h    []int
		want bool
	}{
		{"all are low", []int64{3, 0}, []int{0, 0, 5, 0, 0}, true},
		{"one without arcs has 1", []int64{3, 0}, []int{0, 0, 5, 1, 0}, true},
		{"one without arcs has 2N - 1", []int64{3, 0}, []int{0, 0, 5, 9, 0}, true},
		{"one without arcs has 2N", []int64{3, 0}, []int{0, 0, 5, 10, 0}, false},
		{"one without arcs has more", []int64{3, 0}, []int{0, 0, 5, math.MaxInt, 0}, false},
		{"one without arcs has -1", []int64{3, 0}, []int{0, 0, 5, -1, 0}, false},
		{"one without arcs has less", []int64{3, 0}, []int{0, 0, 5, math.MinInt, 0}, false},
		{"one above S", []int64{3, 3}, []int{6, 0, 5, 0, 0}, true},
		{"two above S", []int64{3, 3}, []int{7, 0, 5, 0, 0}, false},
		{"one above one above S", []int64{3, 3}, []int{6, 7, 5, 0, 0}, true},
		{"two above one above S", []int64{3, 3}, []int{6, 8, 5, 0, 0}, false},
		{"nothing open from a high one", []int64{3, 0}, []int{0, 1, 5, 0, 0}, true},
		{"nothing open from one at 2N - 1", []int64{3, 0}, []int{0, 9, 5, 0, 0}, true},
		{"nothing open from one at 2N", []int64{3, 0}, []int{0, 10, 5, 0, 0}, false},
		{"from S it is open, and leads down by 1", []int64{0, 0}, []int{4, 3, 5, 0, 0}, true},
		{"from S it is open, and leads down by 2", []int64{0, 0}, []int{3, 2, 5, 0, 0}, false},
	} {
		p := state(t, n, c, x.f, x.h)
		checkRight(t, x.name, c, p, x.want)
		if got := wantRight(n, c, p); got != x.want {
			t.Errorf("%s: by definition it is %t", x.name, got)
		}
	}
}

// P7.1: S and T alone are bound to a height of their own: with nothing open, all others may have any.
func TestRightEnds(t *testing.T) {
	n := api.Net{N: 3, S: 2, T: 1, Arcs: []api.Arc{arc(2, 1, 0), arc(0, 0, 4)}}
	c := mustMake(t, n)
	right := 0
	allLists(3, -1, 7, func(h []int) {
		want := h[2] == 3 && h[1] == 0 && 0 <= h[0] && h[0] < 6
		checkRight(t, "nothing open", c, api.Pre{Res: []int64{0, 0}, Ex: []int64{0, 0, 0}, H: h}, want)
		if want {
			right++
		}
	})
	if right != 6 {
		t.Errorf("%d are right", right)
	}
}

// P7.1: all states of tiny networks are valid that come of numbers within the capacities, and no other ones.
func TestRightByDefinition(t *testing.T) {
	for _, n := range []api.Net{
		{N: 2, S: 0, T: 1, Arcs: []api.Arc{arc(0, 1, 1)}},
		{N: 2, S: 1, T: 0, Arcs: []api.Arc{arc(1, 0, 1), arc(0, 1, 1)}},
		{N: 3, S: 1, T: 2, Arcs: []api.Arc{arc(1, 0, 1)}},
		{N: 3, S: 0, T: 2, Arcs: []api.Arc{arc(0, 1, 1), arc(1, 2, 1)}},
	} {
		c := mustMake(t, n)
		can := map[string]bool{}
		allLists(len(n.Arcs), 0, 1, func(f []int64) {
			p := state(t, n, c, f, nil)
			can[fmt.Sprint(p.Res, p.Ex)] = true
		})
		right := 0
		allLists(csr.Len(c), -1, 2, func(res []int64) {
			allLists(n.N, -2, 2, func(ex []int64) {
				for _, h := range []int{0, 1, 2, 5} {
					p := api.Pre{Res: res, Ex: ex, H: slices.Repeat([]int{h}, n.N)}
					p.H[n.S], p.H[n.T] = n.N, 0
					want := wantRight(n, c, p)
					checkRight(t, "by definition", c, p, want)
					if want && !can[fmt.Sprint(res, ex)] {
						t.Fatalf("%v: %v comes of no numbers within the capacities", n, p)
					}
					if want {
						right++
					}
				}
			})
		})
		if right == 0 {
			t.Errorf("%v: nothing is right", n)
		}
	}
}

// P7.1: Copy returns the same, whether it is a state or not.
func TestCopy(t *testing.T) {
	for _, p := range []api.Pre{
		{},
		{Res: []int64{}, Ex: []int64{}, H: []int{}},
		{Res: []int64{1, -2, math.MaxInt64}},
		{Ex: []int64{0, 0, -4}, H: []int{7}},
		{H: []int{math.MinInt, 3}},
		wantBegin(mustMake(t, example())),
		wantBegin(mustMake(t, large())),
	} {
		if got := pre.Copy(p); !equal(got, p) {
			t.Errorf("Copy(%s) is %s", brief(p), brief(got))
		}
	}
}

// P7.1: active are all vertices with an excess above 0 but S and T, however high they are.
func TestActive(t *testing.T) {
	n := example()
	c := mustMake(t, n)
	for _, x := range []struct {
		name string
		f    []int64
		h    []int
		want []int
	}{
		{"the first state", []int64{5, 4, 0, 0, 0}, []int{4, 0, 0, 0}, []int{1, 2}},
		{"1 above S", []int64{5, 4, 3, 0, 2}, []int{4, 5, 0, 0}, []int{2}},
		{"T has all", []int64{5, 4, 3, 6, 2}, []int{4, 1, 1, 0}, nil},
		{"T has most, 1 has the rest", []int64{5, 4, 3, 5, 1}, []int{4, 1, 1, 0}, []int{1}},
	} {
		if got := pre.Active(c, state(t, n, c, x.f, x.h)); !slices.Equal(got, x.want) {
			t.Errorf("%s: active are %v, want %v", x.name, got, x.want)
		}
	}
	c = mustMake(t, tangle())
	if got := pre.Active(c, wantBegin(c)); !slices.Equal(got, []int{0, 2}) {
		t.Errorf("active are %v", got)
	}
}
