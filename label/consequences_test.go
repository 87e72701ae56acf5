package label_test

import (
	"slices"
	"testing"

	"acequia/api"
	"acequia/csr"
	"acequia/label"
)

// smallNets calls f with networks of three vertices with up to three arcs, self-loops, parallel arcs and arcs against each other among them. Residual capacities are given apart, so that the capacities do not matter.
func smallNets(f func(n api.Net)) {
	n := api.Net{N: 3, S: 1, T: 0}
	f(n)
	for first := range 9 {
		a := arc(first/3, first%3, 1)
		n.Arcs = []api.Arc{a}
		f(n)
		for second := range 9 {
			b := arc(second/3, second%3, 1)
			n.Arcs = []api.Arc{a, b}
			f(n)
			for third := range 9 {
				n.Arcs = []api.Arc{a, b, arc(third/3, third%3, 1)}
				f(n)
			}
		}
	}
}

// widerNets calls f with networks of four and five vertices, in which vertices other than S and T have residual arcs to each other.
func widerNets(f func(n api.Net)) {
	f(api.Net{N: 4, S: 0, T: 3, Arcs: []api.Arc{arc(0, 2, 1), arc(0, 1, 1), arc(1, 3, 1), arc(2, 3, 1), arc(1, 2, 1)}})
	f(api.Net{N: 4, S: 3, T: 1, Arcs: []api.Arc{arc(3, 2, 1), arc(2, 0, 1), arc(0, 1, 1), arc(2, 2, 1), arc(2, 0, 1)}})
	f(api.Net{N: 5, S: 0, T: 4, Arcs: []api.Arc{arc(0, 1, 1), arc(1, 2, 1), arc(2, 3, 1), arc(3, 4, 1)}})
	f(api.Net{N: 5, S: 2, T: 0, Arcs: []api.Arc{arc(2, 1, 1), arc(1, 3, 1), arc(3, 0, 1), arc(3, 4, 1)}})
}

// allLists calls f with all lists of so many numbers between these.
func allLists[E int | int64](length int, least, most E, f func(list []E)) {
	list := slices.Repeat([]E{least}, length)
	for {
		f(list)
		at := 0
		for at < length && list[at] == most {
			list[at] = least
			at++
		}
		if at == length {
			return
		}
		list[at]++
	}
}

// allHeights calls f with all heights for c.
func allHeights(c api.Csr, f func(h []int)) {
	allLists(c.N-2, 0, c.N, func(free []int) {
		h, next := make([]int, c.N), 0
		for v := range h {
			if v != c.S && v != c.T {
				h[v] = free[next]
				next++
			}
		}
		h[c.S] = c.N
		f(h)
	})
}

// P6.1, P6.2: Right and Sum for all lists of small numbers, heights or not.
func TestAllLists(t *testing.T) {
	for _, n := range []api.Net{{N: 2, S: 0, T: 1}, {N: 2, S: 1, T: 0}, {N: 3, S: 1, T: 0}, {N: 3, S: 0, T: 2}} {
		c, right := mustMake(t, n), 0
		for length := range n.N + 2 {
			allLists(length, -1, n.N+1, func(h []int) {
				checkByDefinition(t, c, nil, h)
				if label.Right(c, h) {
					right++
				}
			})
		}
		if want := []int{1, n.N + 1}[n.N-2]; right != want {
			t.Errorf("%v: %d lists are heights, want %d", n, right, want)
		}
	}
}

// P6.1, P6.2: all is what it is by definition, for all residual capacities and heights of small networks.
func TestByDefinition(t *testing.T) {
	smallNets(func(n api.Net) {
		c, least := mustMake(t, n), int64(-1)
		// The negative numbers of all nets would take too long: all pairs of arcs are tried with them.
		if len(n.Arcs) == 3 {
			least = 0
		}
		allLists(csr.Len(c), least, 1, func(res []int64) {
			allHeights(c, func(h []int) { checkByDefinition(t, c, res, h) })
		})
	})
	widerNets(func(n api.Net) {
		c := mustMake(t, n)
		allLists(csr.Len(c), 0, 1, func(res []int64) {
			allHeights(c, func(h []int) { checkByDefinition(t, c, res, h) })
		})
	})
}

// tried counts what the consequences have been tried with, so that no test passes for want of any.
type tried struct{ valid, reached, lifted, capped, raised int }

// P6.3: all consequences, for all heights and residual capacities of small networks.
func TestConsequences(t *testing.T) {
	var seen tried
	check := func(n api.Net) {
		c := mustMake(t, n)
		allLists(csr.Len(c), 0, 1, func(res []int64) {
			far := distances(c, res)
			allHeights(c, func(h []int) {
				checkDistances(t, c, res, h, far, &seen)
				for u := range c.N {
					if u != c.S && u != c.T {
						checkLifted(t, c, res, h, u, &seen)
						checkRaised(t, c, res, h, u, &seen)
					}
				}
			})
		})
	}
	smallNets(check)
	widerNets(check)
	if seen.valid == 0 || seen.reached == 0 || seen.lifted == 0 || seen.capped == 0 || seen.raised == 0 {
		t.Errorf("not everything has been tried: %+v", seen)
	}
}

// distances are those to T over open residual arcs that do not begin at S, made less by one residual arc after the other.
func distances(c api.Csr, res []int64) []int {
	far := slices.Repeat([]int{c.N}, c.N)
	far[c.T] = 0
	for range c.N {
		for a, left := range res {
			if u, _ := csr.Tail(c, a); left > 0 && u != c.S {
				far[u] = min(far[u], far[c.Head[a]]+1)
			}
		}
	}
	return far
}

// checkDistances checks that valid heights are at most the distances, but for S, and that the distances are valid themselves.
func checkDistances(t *testing.T, c api.Csr, res []int64, h, far []int, seen *tried) {
	t.Helper()
	exact := slices.Clone(far)
	exact[c.S] = c.N
	if !label.Valid(c, res, exact) {
		t.Fatalf("%v, %v: the distances %v are not valid", c, res, exact)
	}
	if !label.Valid(c, res, h) {
		return
	}
	seen.valid++
	for v, height := range h {
		if v != c.S && height > far[v] {
			t.Fatalf("%v, %v: the heights %v are valid, but %d has the distance %d", c, res, h, v, far[v])
		}
		if v != c.S && v != c.T && far[v] < c.N {
			seen.reached++
		}
	}
}

// checkLifted checks what the residual arcs of u are if its height becomes that of its lowest open end plus 1.
func checkLifted(t *testing.T, c api.Csr, res []int64, h []int, u int, seen *tried) {
	t.Helper()
	_, low, ok := label.Least(c, res, h, u)
	if !ok {
		return
	}
	lifted := slices.Clone(h)
	lifted[u] = min(low+1, c.N)
	ofU := func(a int) bool { return c.First[u] <= a && a < c.First[u+1] }
	if steep := label.Steep(c, res, lifted); slices.ContainsFunc(steep, ofU) {
		t.Fatalf("%v, %v, %v: with %d lifted to %d, the steep ones are %v", c, res, h, u, lifted[u], steep)
	}
	if low == c.N {
		seen.capped++
		return
	}
	seen.lifted++
	if flat := label.Flat(c, res, lifted); !slices.ContainsFunc(flat, ofU) {
		t.Fatalf("%v, %v, %v: with %d lifted to %d, the flat ones are %v", c, res, h, u, lifted[u], flat)
	}
}

// checkRaised checks that no residual arc that ends at u becomes steep if the height of u becomes greater.
func checkRaised(t *testing.T, c api.Csr, res []int64, h []int, u int, seen *tried) {
	t.Helper()
	before := label.Steep(c, res, h)
	for height := h[u] + 1; height <= c.N; height++ {
		seen.raised++
		raised := slices.Clone(h)
		raised[u] = height
		for _, a := range label.Steep(c, res, raised) {
			if c.Head[a] == u && !slices.Contains(before, a) {
				t.Fatalf("%v, %v, %v: with %d raised to %d, %d becomes steep", c, res, h, u, height, a)
			}
		}
	}
}
