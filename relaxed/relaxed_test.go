package relaxed_test

import (
	"fmt"
	"math"
	"slices"
	"testing"

	"acequia/api"
	"acequia/csr"
	"acequia/flow"
	"acequia/pre"
	"acequia/relaxed"
)

// arc is short for the literals below.
func arc(from, to int, cap int64) api.Arc { return api.Arc{From: from, To: to, Cap: cap} }

// push is short for the literals below.
func push(u, a int, d int64, h, low int) api.Event {
	return api.Event{What: api.EvPush, U: u, Arc: a, D: d, H: h, Low: low}
}

// lift is short for the literals below.
func lift(u, h int) api.Event { return api.Event{What: api.EvLift, U: u, H: h} }

// way is the network of the chapter's example. Its residual arcs are 0: 0>1; 1: 0>1 (back), 2: 1>2; 3: 1>2 (back).
func way() api.Net {
	return api.Net{N: 3, S: 0, T: 2, Arcs: []api.Arc{arc(0, 1, 5), arc(1, 2, 5)}}
}

// example is the network of chapter 1. Its residual arcs are 0: 0>1, 1: 0>2; 2: 0>1 (back), 3: 1>3, 4: 1>2; 5: 0>2 (back), 6: 2>3, 7: 1>2 (back); 8: 1>3 (back), 9: 2>3 (back).
func example() api.Net {
	return api.Net{N: 4, S: 0, T: 3, Arcs: []api.Arc{arc(0, 1, 5), arc(0, 2, 4), arc(1, 3, 3), arc(2, 3, 6), arc(1, 2, 2)}}
}

// tangle has self-loops, parallel arcs, arcs against each other, an arc of no capacity, one out of T, and a vertex (3) without arcs.
// Its residual arcs are 0: 4>0 (back), 1: 0>4, 2: 4>0 (back), 3: 0>1; 4: 0>1 (back), 5: 1>2, 6: 2>1 (back); 7: 1>2 (back), 8: 2>1, 9: 4>2 (back); 10: 4>0, 11: 0>4 (back), 12: 4>0, 13: 4>2.
func tangle() api.Net {
	return api.Net{N: 5, S: 4, T: 1, Arcs: []api.Arc{
		arc(4, 0, 3), arc(2, 2, 8), arc(0, 4, 2), arc(4, 0, 1), arc(0, 1, 4), arc(1, 2, 0), arc(2, 1, 5), arc(0, 0, 1), arc(4, 2, 2),
	}}
}

// large has as many vertices and arcs as there may be, with ends of all kinds.
func large() api.Net {
	n := api.Net{N: 1 << 12, S: 9, T: 1<<12 - 1, Arcs: make([]api.Arc, 1<<14)}
	for i := range n.Arcs {
		n.Arcs[i] = arc(i*i%4093, i*37%4096, int64(i%5)<<40)
	}
	return n
}

// fewNets calls f with networks of three vertices, with parallel arcs, arcs against each other, self-loops and arcs of no capacity among them.
func fewNets(f func(n api.Net)) {
	f(api.Net{N: 2, S: 1, T: 0, Arcs: []api.Arc{arc(1, 0, 2), arc(0, 1, 1)}})
	f(api.Net{N: 3, S: 0, T: 2, Arcs: []api.Arc{arc(0, 1, 2), arc(1, 2, 1)}})
	f(api.Net{N: 3, S: 2, T: 1, Arcs: []api.Arc{arc(2, 0, 2), arc(0, 1, 2), arc(0, 0, 1)}})
	f(api.Net{N: 3, S: 1, T: 0, Arcs: []api.Arc{arc(1, 2, 3), arc(2, 1, 1)}})
	f(api.Net{N: 3, S: 0, T: 1, Arcs: []api.Arc{arc(0, 2, 1), arc(0, 2, 1), arc(2, 1, 0), arc(1, 2, 1)}})
	f(api.Net{N: 3, S: 1, T: 2, Arcs: []api.Arc{arc(1, 2, 2)}})
}

// smallNets calls f with all networks of three vertices with one or two arcs and small capacities.
func smallNets(f func(n api.Net)) {
	n := api.Net{N: 3, S: 1, T: 0}
	for first := range 27 {
		a := arc(first/9, first/3%3, int64(first%3))
		n.Arcs = []api.Arc{a}
		f(n)
		for second := range 27 {
			n.Arcs = []api.Arc{a, arc(second/9, second/3%3, int64(second%3))}
			f(n)
		}
	}
}

// widerNets calls f with networks in which vertices other than S and T push to each other.
func widerNets(f func(n api.Net)) {
	f(api.Net{N: 4, S: 0, T: 3, Arcs: []api.Arc{arc(0, 1, 2), arc(1, 2, 2), arc(2, 1, 1), arc(2, 3, 1)}})
	f(api.Net{N: 4, S: 3, T: 1, Arcs: []api.Arc{arc(3, 2, 1), arc(2, 0, 1), arc(0, 1, 1), arc(2, 0, 2), arc(0, 3, 1)}})
	f(api.Net{N: 4, S: 2, T: 0, Arcs: []api.Arc{arc(2, 1, 2), arc(2, 3, 1), arc(1, 3, 1), arc(3, 0, 1)}})
}

// mixed is a network of so many vertices with three times as many arcs, which follow from the seed.
func mixed(seed *uint64, verts int, unit int64) api.Net {
	n := api.Net{N: verts, S: pick(seed, verts)}
	n.T = (n.S + 1 + pick(seed, verts-1)) % verts
	for range 2 * verts {
		n.Arcs = append(n.Arcs, arc(pick(seed, verts), pick(seed, verts), int64(pick(seed, 5))*unit))
	}
	// So that there is something to give away.
	for range verts {
		n.Arcs = append(n.Arcs, arc(n.S, pick(seed, verts), int64(pick(seed, 5))*unit))
	}
	return n
}

// pick is a number below bound that follows from the numbers before it.
func pick(seed *uint64, bound int) int {
	*seed = *seed*6364136223846793005 + 1442695040888963407
	return int(*seed >> 33 % uint64(bound))
}

// mustMake returns the residual network of a valid network.
func mustMake(t *testing.T, n api.Net) api.Csr {
	t.Helper()
	c, err := csr.Make(n)
	if err != api.OK {
		t.Fatalf("Make(%v) has the error %d", n, err)
	}
	return c
}

// state is what layers 2 and 3 say of the numbers f, with the heights h.
func state(t *testing.T, n api.Net, c api.Csr, f []int64, h []int) api.Pre {
	t.Helper()
	res, err := csr.Res(c, f)
	if err != api.OK {
		t.Fatalf("Res of %v has the error %d", f, err)
	}
	excess, err := flow.Excess(n, f)
	if err != api.OK {
		t.Fatalf("Excess of %v has the error %d", f, err)
	}
	return api.Pre{Res: res, Ex: excess, H: slices.Clone(h)}
}

// equal tells whether two states are the same.
func equal(p, q api.Pre) bool {
	return slices.Equal(p.Res, q.Res) && slices.Equal(p.Ex, q.Ex) && slices.Equal(p.H, q.H)
}

// twin copies p.
func twin(p api.Pre) api.Pre {
	return api.Pre{Res: slices.Clone(p.Res), Ex: slices.Clone(p.Ex), H: slices.Clone(p.H)}
}

// brief is the beginning of what x looks like, as the largest networks would fill pages.
func brief(x any) string { return fmt.Sprintf("%.300s", fmt.Sprint(x)) }

// allLists calls f with all lists of so many numbers between these.
func allLists[E int | int64](length int, least, most E, f func(list []E)) {
	list := slices.Repeat([]E{least}, length)
	for {
		f(list)
		at := 0
		for at < length && list[at] == most {
			list[at] = least
			at++
		}
		if at == length {
			return
		}
		list[at]++
	}
}

// allStates calls f with what all numbers within the capacities, and all heights from the least to the greatest one of vertices other than S and T, are together.
func allStates(t *testing.T, n api.Net, c api.Csr, least, greatest int, f func(p api.Pre)) {
	t.Helper()
	var most int64
	for _, a := range n.Arcs {
		most = max(most, a.Cap)
	}
	allLists(len(n.Arcs), 0, most, func(numbers []int64) {
		if !flow.Within(n, numbers) {
			return
		}
		p := state(t, n, c, numbers, make([]int, n.N))
		p.H[n.S] = n.N
		allLists(n.N-2, least, greatest, func(free []int) {
			next := 0
			for v := range p.H {
				if v != n.S && v != n.T {
					p.H[v] = free[next]
					next++
				}
			}
			f(p)
		})
	})
}

// soundStates calls f with all sound states of n.
func soundStates(t *testing.T, n api.Net, c api.Csr, f func(p api.Pre)) {
	t.Helper()
	allStates(t, n, c, 0, 2*n.N, func(p api.Pre) {
		if wantRight(n, c, p) {
			f(p)
		}
	})
}

// wantRight is the chapter's definition of a sound state, written anew, arc by arc of the network.
func wantRight(n api.Net, c api.Csr, p api.Pre) bool {
	if len(p.Res) != csr.Len(c) || len(p.Ex) != n.N || len(p.H) != n.N || p.H[n.S] != n.N || p.H[n.T] != 0 {
		return false
	}
	excess := make([]int64, n.N)
	for i, a := range csr.Forward(c, len(n.Arcs)) {
		if a < 0 {
			continue
		}
		there, back := p.Res[a], p.Res[c.Rev[a]]
		if there < 0 || back < 0 || uint64(there)+uint64(back) != uint64(c.Cap[a])+uint64(c.Cap[c.Rev[a]]) {
			return false
		}
		excess[n.Arcs[i].To] += back
		excess[n.Arcs[i].From] -= back
	}
	for v := range n.N {
		if excess[v] != p.Ex[v] || excess[v] < 0 && v != n.S || p.H[v] < 0 || p.H[v] > 2*n.N {
			return false
		}
	}
	return true
}

// checkRight compares Right to what it should be.
func checkRight(t *testing.T, name string, c api.Csr, p api.Pre, want bool) {
	t.Helper()
	if got := relaxed.Right(c, p); got != want {
		t.Errorf("%s: Right(%s, %s) is %t", name, brief(c), brief(p), got)
	}
}

// P9.1 to P9.3: the chapter's example.
func TestExample(t *testing.T) {
	n := way()
	c := mustMake(t, n)
	p := state(t, n, c, []int64{5, 0}, []int{3, 1, 0})
	checkRight(t, "the example", c, p, true)
	for _, x := range []struct {
		name   string
		e      api.Event
		want   api.Errno
		strict bool
	}{
		{"a push of 3", push(1, 2, 3, 1, 0), api.OK, false},
		{"a push of 5", push(1, 2, 5, 1, 0), api.OK, true},
		{"Low 1", push(1, 2, 5, 1, 1), api.ErrPush, false},
		{"a lift to 6", lift(1, 6), api.OK, false},
		{"a lift to 1", lift(1, 1), api.ErrPush, false},
		{"a lift to 7", lift(1, 7), api.ErrPush, false},
		{"a push of 2", push(2, 3, 1, 1, 0), api.ErrArg, false},
		{"a lift of 2", lift(2, 6), api.ErrArg, false},
	} {
		checkMove(t, x.name, c, p, x.e, x.want)
		if got := relaxed.Strict(c, p, x.e); got != x.strict {
			t.Errorf("%s: Strict is %t", x.name, got)
		}
	}
}

// P9.1: states of the network of chapter 1 that are sound, and such that are not for one reason alone.
func TestRight(t *testing.T) {
	n := example()
	c := mustMake(t, n)
	// The excesses are -9, 1, 1, 7.
	full := state(t, n, c, []int64{5, 4, 3, 4, 1}, []int{4, 8, 1, 0})
	for _, x := range []struct {
		name   string
		change func(p *api.Pre)
		want   bool
	}{
		{"as it is", func(p *api.Pre) {}, true},
		{"a residual capacity too few", func(p *api.Pre) { p.Res = p.Res[:9] }, false},
		{"a residual capacity too many", func(p *api.Pre) { p.Res = append(p.Res, 0) }, false},
		{"no residual capacities", func(p *api.Pre) { p.Res = nil }, false},
		{"an excess too few", func(p *api.Pre) { p.Ex = p.Ex[:3] }, false},
		{"an excess too many", func(p *api.Pre) { p.Ex = append(p.Ex, 0) }, false},
		{"no excesses", func(p *api.Pre) { p.Ex = nil }, false},
		{"a height too few", func(p *api.Pre) { p.H = p.H[:3] }, false},
		{"a height too many", func(p *api.Pre) { p.H = append(p.H, 0) }, false},
		{"no heights", func(p *api.Pre) { p.H = nil }, false},
		{"nothing", func(p *api.Pre) { *p = api.Pre{} }, false},
		{"a residual capacity that is greater by 1", func(p *api.Pre) { p.Res[3]++ }, false},
		{"a residual capacity that is less by 1", func(p *api.Pre) { p.Res[6]-- }, false},
		{"the last residual capacity is greater by 1", func(p *api.Pre) { p.Res[9]++ }, false},
		{"a backward one that is greater by 1, with the excesses", func(p *api.Pre) { p.Res[7]++; p.Ex[1]--; p.Ex[2]++ }, false},
		{"one that is negative", func(p *api.Pre) { p.Res[0], p.Res[2], p.Ex[0], p.Ex[1] = -1, 6, -10, 2 }, false},
		{"a backward one that is negative", func(p *api.Pre) { p.Res[3], p.Res[8], p.Ex[1], p.Ex[3] = 4, -1, 5, 3 }, false},
		{"two that wrap round", func(p *api.Pre) { p.Res[3], p.Res[8] = math.MaxInt64, math.MinInt64+4 }, false},
		{"residual capacities that are all 0", func(p *api.Pre) { clear(p.Res) }, false},
		{"an excess that is greater by 1", func(p *api.Pre) { p.Ex[1]++ }, false},
		{"an excess that is less by 1", func(p *api.Pre) { p.Ex[2]-- }, false},
		{"another excess of S", func(p *api.Pre) { p.Ex[0]++ }, false},
		{"another excess of T", func(p *api.Pre) { p.Ex[3]-- }, false},
		{"two other excesses with the same sum", func(p *api.Pre) { p.Ex[1]--; p.Ex[2]++ }, false},
		{"excesses that are all 0", func(p *api.Pre) { clear(p.Ex) }, false},
		{"the first state of layer 7", func(p *api.Pre) { *p = pre.Begin(c) }, true},
		{"nothing is sent", func(p *api.Pre) { *p = api.Pre{Res: slices.Clone(c.Cap), Ex: make([]int64, 4), H: p.H} }, true},
	} {
		p := twin(full)
		x.change(&p)
		checkRight(t, x.name, c, p, x.want)
		if got := wantRight(n, c, p); got != x.want {
			t.Errorf("%s: by definition it is %t", x.name, got)
		}
	}
}

// P9.1: heights out of their bounds, of S, of T and of others; residual arcs that are not used up may lead down as far as they like.
func TestRightHeights(t *testing.T) {
	// All of it is with 0, from which everything is open; 3 has no arcs.
	n := api.Net{N: 5, S: 2, T: 4, Arcs: []api.Arc{arc(2, 0, 3), arc(0, 1, 3), arc(0, 4, 3)}}
	c := mustMake(t, n)
	for _, x := range []struct {
		name string
		h    []int
		want bool
	}{
		{"all are low", []int{0, 0, 5, 0, 0}, true},
		{"one is at N", []int{5, 0, 5, 0, 0}, true},
		{"one is at 2N - 1", []int{9, 0, 5, 0, 0}, true},
		{"one is at 2N", []int{10, 0, 5, 0, 0}, true},
		{"all others are at 2N", []int{10, 10, 5, 10, 0}, true},
		{"one is above 2N", []int{11, 0, 5, 0, 0}, false},
		{"one without an excess is above 2N", []int{0, 11, 5, 0, 0}, false},
		{"one without arcs is above 2N", []int{0, 0, 5, 11, 0}, false},
		{"one is far above", []int{math.MaxInt, 0, 5, 0, 0}, false},
		{"one is at -1", []int{-1, 0, 5, 0, 0}, false},
		{"one without an excess is at -1", []int{0, -1, 5, 0, 0}, false},
		{"one is far below", []int{0, 0, 5, math.MinInt, 0}, false},
		{"S is at N - 1", []int{0, 0, 4, 0, 0}, false},
		{"S is at N + 1", []int{0, 0, 6, 0, 0}, false},
		{"S is at 0", []int{0, 0, 0, 0, 0}, false},
		{"S is at 2N", []int{0, 0, 10, 0, 0}, false},
		{"T is at 1", []int{0, 0, 5, 0, 1}, false},
		{"T is at -1", []int{0, 0, 5, 0, -1}, false},
		{"T is at N", []int{0, 0, 5, 0, 5}, false},
		{"S and T are exchanged", []int{0, 0, 0, 0, 5}, false},
	} {
		p := state(t, n, c, []int64{3, 0, 0}, x.h)
		checkRight(t, x.name, c, p, x.want)
		if got := wantRight(n, c, p); got != x.want {
			t.Errorf("%s: by definition it is %t", x.name, got)
		}
	}
}

// P9.1: no vertex but S may have a negative excess, and S may have any.
func TestRightExcesses(t *testing.T) {
	n := api.Net{N: 4, S: 1, T: 2, Arcs: []api.Arc{arc(1, 0, 2), arc(0, 2, 2), arc(2, 3, 2), arc(3, 1, 2), arc(3, 3, 5)}}
	c := mustMake(t, n)
	for _, x := range []struct {
		name string
		f    []int64
		want bool
	}{
		{"nothing is sent", []int64{0, 0, 0, 0, 0}, true},
		{"0 has 2", []int64{2, 0, 0, 0, 0}, true},
		{"0 has 2, and a self-loop is full", []int64{2, 0, 0, 0, 5}, true},
		{"T has 2", []int64{2, 2, 0, 0, 0}, true},
		{"T and 3 have 1", []int64{2, 2, 1, 0, 0}, true},
		{"3 has 2", []int64{2, 2, 2, 0, 0}, true},
		{"all comes back to S", []int64{2, 2, 2, 2, 0}, true},
		{"0 has -1", []int64{0, 1, 0, 0, 0}, false},
		{"T has -1", []int64{2, 1, 2, 0, 0}, false},
		{"T has -2", []int64{2, 0, 2, 2, 0}, false},
		{"3 has -1, and S has 1", []int64{0, 0, 0, 1, 0}, false},
	} {
		checkRight(t, x.name, c, state(t, n, c, x.f, []int{0, 4, 0, 8}), x.want)
	}
}

// P9.1: the greatest capacities there may be.
func TestRightGreatest(t *testing.T) {
	n := api.Net{N: 3, S: 0, T: 2, Arcs: []api.Arc{arc(0, 1, 1<<61), arc(1, 2, 1<<61)}}
	c := mustMake(t, n)
	checkRight(t, "all is with 1", c, state(t, n, c, []int64{1 << 61, 0}, []int{3, 6, 0}), true)
	checkRight(t, "all is with T", c, state(t, n, c, []int64{1 << 61, 1 << 61}, []int{3, 0, 0}), true)
	checkRight(t, "1 has less than 0", c, state(t, n, c, []int64{0, 1 << 61}, []int{3, 0, 0}), false)
	one := api.Net{N: 2, S: 1, T: 0, Arcs: []api.Arc{arc(1, 0, 1<<62)}}
	c = mustMake(t, one)
	checkRight(t, "all is with T", c, api.Pre{Res: []int64{1 << 62, 0}, Ex: []int64{1 << 62, -1 << 62}, H: []int{0, 2}}, true)
	checkRight(t, "more than there may be", c, api.Pre{Res: []int64{math.MaxInt64, math.MaxInt64}, Ex: []int64{math.MaxInt64, -math.MaxInt64}, H: []int{0, 2}}, false)
	checkRight(t, "less than nothing is left", c, api.Pre{Res: []int64{math.MaxInt64, 1<<62 - math.MaxInt64}, Ex: []int64{math.MaxInt64, -math.MaxInt64}, H: []int{0, 2}}, false)
}

// P9.1: all states of small networks are sound that are so by definition, and no other ones, with heights out of their bounds among them.
func TestRightByDefinition(t *testing.T) {
	right, wrong := 0, 0
	check := func(n api.Net) {
		c := mustMake(t, n)
		allStates(t, n, c, -1, 2*n.N+1, func(p api.Pre) {
			want := wantRight(n, c, p)
			checkRight(t, "by definition", c, p, want)
			if want {
				right++
			} else {
				wrong++
			}
		})
	}
	fewNets(check)
	widerNets(check)
	if right < 1000 || wrong < 1000 {
		t.Errorf("only %d states are right, %d wrong", right, wrong)
	}
}

// P9.1: of all numbers that states of tiny networks could have, those are right that come of numbers within the capacities.
func TestRightNumbers(t *testing.T) {
	for _, n := range []api.Net{
		{N: 2, S: 0, T: 1, Arcs: []api.Arc{arc(0, 1, 1)}},
		{N: 2, S: 1, T: 0, Arcs: []api.Arc{arc(1, 0, 1), arc(0, 1, 1)}},
		{N: 3, S: 1, T: 2, Arcs: []api.Arc{arc(1, 0, 1)}},
		{N: 3, S: 0, T: 2, Arcs: []api.Arc{arc(0, 1, 1), arc(1, 2, 1)}},
	} {
		c := mustMake(t, n)
		can := map[string]bool{}
		allLists(len(n.Arcs), 0, 1, func(f []int64) {
			p := state(t, n, c, f, nil)
			can[fmt.Sprint(p.Res, p.Ex)] = true
		})
		right := 0
		h := slices.Repeat([]int{2 * n.N}, n.N)
		h[n.S], h[n.T] = n.N, 0
		allLists(csr.Len(c), -1, 2, func(res []int64) {
			allLists(n.N, -2, 2, func(ex []int64) {
				p := api.Pre{Res: res, Ex: ex, H: h}
				want := wantRight(n, c, p)
				checkRight(t, "by definition", c, p, want)
				if want && !can[fmt.Sprint(res, ex)] {
					t.Fatalf("%v: %v comes of no numbers within the capacities", n, p)
				}
				if want {
					right++
				}
			})
		})
		if right == 0 {
			t.Errorf("%v: nothing is right", n)
		}
	}
}

// P9.1: a network as large as there may be, and one without residual arcs.
func TestRightSizes(t *testing.T) {
	c := mustMake(t, large())
	p := pre.Begin(c)
	checkRight(t, "large", c, p, true)
	for _, change := range []func(p api.Pre){
		func(p api.Pre) { p.Res[csr.Len(c)-1]-- },
		func(p api.Pre) { p.Ex[c.N-2]++ },
		func(p api.Pre) { p.H[c.N-2] = 2*c.N + 1 },
	} {
		q := twin(p)
		change(q)
		checkRight(t, "large, with a change", c, q, false)
	}
	c = mustMake(t, api.Net{N: 3, S: 2, T: 1, Arcs: []api.Arc{arc(0, 0, 4)}})
	allLists(3, -1, 7, func(h []int) {
		want := h[2] == 3 && h[1] == 0 && 0 <= h[0] && h[0] <= 6
		checkRight(t, "no residual arcs", c, api.Pre{Ex: []int64{0, 0, 0}, H: h}, want)
	})
	checkRight(t, "no residual arcs, but some excess", c, api.Pre{Ex: []int64{1, 0, -1}, H: []int{0, 0, 3}}, false)
}
