package pre_test

import (
	"fmt"
	"slices"
	"testing"

	"acequia/api"
	"acequia/csr"
	"acequia/dist"
	"acequia/flow"
	"acequia/pre"
)

// smallNets calls f with networks of three vertices with up to three arcs, self-loops, parallel arcs, arcs against each other and arcs of no capacity among them.
func smallNets(f func(n api.Net)) {
	n := api.Net{N: 3, S: 1, T: 0}
	f(n)
	for first := range 27 {
		a := arc(first/9, first/3%3, int64(first%3))
		n.Arcs = []api.Arc{a}
		f(n)
		for second := range 27 {
			b := arc(second/9, second/3%3, int64(second%3))
			n.Arcs = []api.Arc{a, b}
			f(n)
			// All capacities of the third arc would take too long.
			for third := range 9 {
				n.Arcs = []api.Arc{a, b, arc(third/3, third%3, 2)}
				f(n)
			}
		}
	}
}

// widerNets calls f with networks of four and five vertices, in which vertices other than S and T push to each other.
func widerNets(f func(n api.Net)) {
	f(api.Net{N: 4, S: 0, T: 3, Arcs: []api.Arc{arc(0, 1, 2), arc(0, 2, 1), arc(1, 3, 1), arc(2, 3, 1), arc(1, 2, 1)}})
	f(api.Net{N: 4, S: 0, T: 3, Arcs: []api.Arc{arc(0, 1, 2), arc(1, 2, 2), arc(2, 1, 1), arc(2, 3, 1)}})
	f(api.Net{N: 4, S: 3, T: 1, Arcs: []api.Arc{arc(3, 2, 1), arc(2, 0, 1), arc(0, 1, 1), arc(2, 2, 1), arc(2, 0, 2), arc(0, 3, 1)}})
	f(api.Net{N: 4, S: 2, T: 0, Arcs: []api.Arc{arc(2, 1, 2), arc(1, 3, 2), arc(3, 1, 1), arc(0, 1, 1), arc(3, 0, 0)}})
	f(api.Net{N: 5, S: 0, T: 4, Arcs: []api.Arc{arc(0, 1, 2), arc(1, 2, 2), arc(2, 3, 1), arc(3, 4, 1)}})
}

// allLists calls f with all lists of so many numbers between these.
func allLists[E int | int64](length int, least, most E, f func(list []E)) {
	list := slices.Repeat([]E{least}, length)
	for {
		f(list)
		at := 0
		for at < length && list[at] == most {
			list[at] = least
			at++
		}
		if at == length {
			return
		}
		list[at]++
	}
}

// allStates calls f with what all numbers within the capacities and all heights, one too low and one too high among them, are together.
func allStates(t *testing.T, n api.Net, c api.Csr, f func(p api.Pre)) {
	t.Helper()
	var most int64
	for _, a := range n.Arcs {
		most = max(most, a.Cap)
	}
	allLists(len(n.Arcs), 0, most, func(numbers []int64) {
		if !flow.Within(n, numbers) {
			return
		}
		p := state(t, n, c, numbers, make([]int, n.N))
		p.H[n.S] = n.N
		allLists(n.N-2, -1, 2*n.N, func(free []int) {
			next := 0
			for v := range p.H {
				if v != n.S && v != n.T {
					p.H[v] = free[next]
					next++
				}
			}
			f(p)
		})
	})
}

// leastCut is the least capacity of all cuts, one by one.
func leastCut(n api.Net) int64 {
	least := int64(-1)
	for side := range 1 << n.N {
		if side>>n.S&1 == 0 || side>>n.T&1 == 1 {
			continue
		}
		var sum int64
		for _, a := range n.Arcs {
			if side>>a.From&1 == 1 && side>>a.To&1 == 0 {
				sum += a.Cap
			}
		}
		if least < 0 || sum < least {
			least = sum
		}
	}
	return least
}

// tried counts what the consequences have been tried with, so that no test passes for want of any.
type tried struct{ states, pushes, backs, lifts, above, ends int }

func (x tried) everything() bool {
	return x.states > 0 && x.pushes > 0 && x.backs > 0 && x.lifts > 0 && x.above > 0 && x.ends > 0
}

// P7.5: from the first state on, over all pushes and lifts in all orders, of all small networks: each state is valid, an active vertex can be lifted or pushed from, never both, and at every end there is a maximum flow.
func TestAllRuns(t *testing.T) {
	var seen tried
	check := func(n api.Net) {
		c := mustMake(t, n)
		first := pre.Begin(c)
		known := map[string]bool{fmt.Sprint(first): true}
		for left := []api.Pre{first}; len(left) > 0; {
			p := left[len(left)-1]
			left = left[:len(left)-1]
			for _, q := range checkState(t, n, c, p, &seen) {
				if key := fmt.Sprint(q); !known[key] {
					known[key] = true
					left = append(left, q)
				}
			}
		}
	}
	smallNets(check)
	widerNets(check)
	check(example())
	check(tangle())
	seed := uint64(7)
	for round := range 40 {
		n := api.Net{N: 5, S: round % 4, T: (round + 1 + round/4%3) % 4}
		// What is between the others can carry less than what comes from S, so that some has to go back.
		n.Arcs = []api.Arc{arc(n.S, pick(&seed, 5), 3), arc(n.S, 4, 4)}
		for range 8 {
			n.Arcs = append(n.Arcs, arc(pick(&seed, 5), pick(&seed, 5), int64(pick(&seed, 3))))
		}
		check(n)
	}
	if !seen.everything() {
		t.Errorf("not everything has been tried: %+v", seen)
	}
}

// P7.5: not only the states of runs, but all valid ones: what a push or a lift makes of them is valid.
func TestAllValidStates(t *testing.T) {
	var seen tried
	check := func(n api.Net) {
		c := mustMake(t, n)
		allStates(t, n, c, func(p api.Pre) {
			if pre.Right(c, p) {
				checkState(t, n, c, p, &seen)
			}
		})
	}
	smallNets(check)
	widerNets(check)
	if !seen.everything() {
		t.Errorf("not everything has been tried: %+v", seen)
	}
}

// checkState checks what follows for a state, and returns the states that may come next.
func checkState(t *testing.T, n api.Net, c api.Csr, p api.Pre, seen *tried) []api.Pre {
	t.Helper()
	seen.states++
	if !pre.Right(c, p) {
		t.Fatalf("%v: %v is not valid", n, p)
	}
	var next []api.Pre
	active := pre.Active(c, p)
	for u := range c.N {
		pushed := pushesOf(t, n, c, p, u, seen)
		lifted, err := pre.Lift(c, p, u)
		if can := slices.Contains(active, u); can && (len(pushed) > 0) == (err == api.OK) || !can && (len(pushed) > 0 || err == api.OK) {
			t.Fatalf("%v: %v: of %d, which is active: %t, there are %d pushes, and the lift is %d", n, p, u, can, len(pushed), err)
		}
		next = append(next, pushed...)
		if err == api.OK {
			checkLifted(t, n, p, lifted, u, seen)
			next = append(next, lifted)
		}
	}
	if len(active) == 0 {
		checkEnd(t, n, c, p, seen)
	}
	return next
}

// pushesOf returns what all pushes along the residual arcs of u make of p.
func pushesOf(t *testing.T, n api.Net, c api.Csr, p api.Pre, u int, seen *tried) []api.Pre {
	t.Helper()
	var pushed []api.Pre
	for a := c.First[u]; a < c.First[u+1]; a++ {
		q, d, err := pre.Push(c, p, a)
		if err != api.OK {
			continue
		}
		if d < 1 || q.Ex[u] != 0 && q.Res[a] != 0 {
			t.Fatalf("%v: %v: %d is pushed along %d, which leaves %v", n, p, d, a, q)
		}
		seen.pushes++
		if c.Back[a] {
			seen.backs++
		}
		pushed = append(pushed, q)
	}
	return pushed
}

// checkLifted checks that u is higher than it was, and nothing else has changed.
func checkLifted(t *testing.T, n api.Net, p, q api.Pre, u int, seen *tried) {
	t.Helper()
	seen.lifts++
	if q.H[u] > n.N {
		seen.above++
	}
	want := api.Pre{Res: p.Res, Ex: p.Ex, H: slices.Clone(p.H)}
	want.H[u] = q.H[u]
	if q.H[u] < p.H[u]+1 || !equal(q, want) {
		t.Fatalf("%v: %v: with %d lifted it is %v", n, p, u, q)
	}
}

// checkEnd checks that a state without active vertices has a maximum flow.
func checkEnd(t *testing.T, n api.Net, c api.Csr, p api.Pre, seen *tried) {
	t.Helper()
	seen.ends++
	f, err := csr.Flow(c, p.Res, len(n.Arcs))
	if err != api.OK || !flow.Right(n, f) {
		t.Fatalf("%v: at the end %v has no flow: %v, %d", n, p, f, err)
	}
	if far := dist.To(c, p.Res, n.T); far[n.S] != n.N {
		t.Fatalf("%v: at the end %v, T is reached from S", n, p)
	}
	if value, err := flow.Value(n, f); err != api.OK || value != leastCut(n) || value != p.Ex[n.T] {
		t.Fatalf("%v: the flow %v at the end is worth %d, and T has %d; the least cut has %d", n, f, value, p.Ex[n.T], leastCut(n))
	}
}

// pick is a number below bound that follows from the numbers before it.
func pick(seed *uint64, bound int) int {
	*seed = *seed*6364136223846793005 + 1442695040888963407
	return int(*seed >> 33 % uint64(bound))
}

// P7.5: whole runs of greater networks, with a choice at every step, from the first state to the end.
func TestLongRuns(t *testing.T) {
	var seen tried
	seed := uint64(1)
	for round := range 60 {
		n := api.Net{N: 4 + round%7, S: round % 4, T: (round + 1 + round/4%3) % 4}
		for range 3 * n.N {
			n.Arcs = append(n.Arcs, arc(pick(&seed, n.N), pick(&seed, n.N), int64(pick(&seed, 5))<<(round%57)))
		}
		c := mustMake(t, n)
		p := pre.Begin(c)
		for {
			next := checkState(t, n, c, p, &seen)
			pushes, lifts := pre.May(c, p)
			if len(next) != len(pushes)+len(lifts) {
				t.Fatalf("%v: %v: there are %d moves, but May is %v, %v", n, p, len(next), pushes, lifts)
			}
			if len(next) == 0 {
				break
			}
			p = next[pick(&seed, len(next))]
		}
	}
	if !seen.everything() {
		t.Errorf("not everything has been tried: %+v", seen)
	}
}
