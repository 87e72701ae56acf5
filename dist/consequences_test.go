package dist_test

import (
	"slices"
	"testing"

	"acequia/api"
	"acequia/csr"
	"acequia/dist"
)

// smallNets calls f with networks of three vertices with up to three arcs, self-loops, parallel arcs and arcs against each other among them. Residual capacities are given apart, so that the capacities do not matter.
func smallNets(f func(n api.Net)) {
	n := api.Net{N: 3, S: 1, T: 0}
	f(n)
	for first := range 9 {
		a := arc(first/3, first%3, 1)
		n.Arcs = []api.Arc{a}
		f(n)
		for second := range 9 {
			b := arc(second/3, second%3, 1)
			n.Arcs = []api.Arc{a, b}
			f(n)
			for third := range 9 {
				n.Arcs = []api.Arc{a, b, arc(third/3, third%3, 1)}
				f(n)
			}
		}
	}
}

// widerNets calls f with networks of four and five vertices, in which there are longer ways, and several of them.
func widerNets(f func(n api.Net)) {
	f(api.Net{N: 4, S: 0, T: 3, Arcs: []api.Arc{arc(0, 2, 1), arc(0, 1, 1), arc(1, 3, 1), arc(2, 3, 1), arc(1, 2, 1)}})
	f(api.Net{N: 4, S: 3, T: 1, Arcs: []api.Arc{arc(3, 2, 1), arc(2, 0, 1), arc(0, 1, 1), arc(1, 2, 1), arc(2, 3, 1)}})
	f(api.Net{N: 5, S: 0, T: 4, Arcs: []api.Arc{arc(0, 1, 1), arc(1, 2, 1), arc(2, 3, 1), arc(3, 4, 1), arc(4, 4, 1)}})
}

// allRes calls f with all residual capacities between these of so many residual arcs.
func allRes(arcs int, least, most int64, f func(res []int64)) {
	res := slices.Repeat([]int64{least}, arcs)
	for {
		f(res)
		at := 0
		for at < arcs && res[at] == most {
			res[at] = least
			at++
		}
		if at == arcs {
			return
		}
		res[at]++
	}
}

// P5.1 to P5.3: all is what it is by definition, for all residual capacities of small networks.
func TestByDefinition(t *testing.T) {
	smallNets(func(n api.Net) {
		c, least := mustMake(t, n), int64(-1)
		// The negative numbers of all nets would take too long: all pairs of arcs are tried with them.
		if len(n.Arcs) == 3 {
			least = 0
		}
		allRes(csr.Len(c), least, 1, func(res []int64) { checkByDefinition(t, c, res) })
	})
	widerNets(func(n api.Net) {
		c := mustMake(t, n)
		allRes(csr.Len(c), 0, 1, func(res []int64) { checkByDefinition(t, c, res) })
	})
}

// tried counts what the consequences have been tried with, so that no test passes for want of any.
type tried struct{ steps, nearer, raised, less, far int }

// P5.4: all consequences, for all residual capacities of small networks.
func TestConsequences(t *testing.T) {
	var seen tried
	check := func(n api.Net) {
		c := mustMake(t, n)
		allRes(csr.Len(c), 0, 1, func(res []int64) {
			for v := range c.N {
				to := dist.To(c, res, v)
				steps, nearer, far := checkSteps(t, c, res, to, v)
				seen.steps, seen.nearer, seen.far = seen.steps+steps, seen.nearer+nearer, seen.far+far
				checkRaised(t, c, res, to, v, &seen)
				checkExchanged(t, c, res, to, v)
			}
		})
	}
	smallNets(check)
	widerNets(check)
	if seen.steps == 0 || seen.nearer == 0 || seen.raised == 0 || seen.less == 0 || seen.far == 0 {
		t.Errorf("not everything has been tried: %+v", seen)
	}
}

// checkSteps checks that no open residual arc leads nearer by more than one, and that from each vertex that is neither the end nor far from it one leads nearer by one. It returns how many open residual arcs, vertices of that kind, and vertices without a path there are.
func checkSteps(t *testing.T, c api.Csr, res []int64, to []int, end int) (steps, nearer, far int) {
	t.Helper()
	leads := make([]bool, c.N)
	for a, left := range res {
		if left <= 0 {
			continue
		}
		steps++
		u, _ := csr.Tail(c, a)
		if to[c.Head[a]] < to[u]-1 {
			t.Fatalf("the open residual arc %d leads from %d to %d", a, to[u], to[c.Head[a]])
		}
		leads[u] = leads[u] || to[c.Head[a]] == to[u]-1
	}
	for u, k := range to {
		if (k == 0) != (u == end) || k < 0 || k > c.N || 0 < k && k < c.N && !leads[u] {
			t.Fatalf("vertex %d has the distance %d to %d; an open residual arc leads nearer: %t", u, k, end, leads[u])
		}
		if k == c.N {
			far++
		} else if k > 0 {
			nearer++
		}
	}
	return steps, nearer, far
}

// checkRaised checks that no distance becomes greater if a residual capacity does. (Any greater residual capacities come of raising one after the other.)
func checkRaised(t *testing.T, c api.Csr, res []int64, to []int, v int, seen *tried) {
	t.Helper()
	for a := range res {
		more := slices.Clone(res)
		more[a] += 1 << 40
		seen.raised++
		for u, k := range dist.To(c, more, v) {
			if k > to[u] {
				t.Fatalf("%v: the distance from %d to %d is %d for %v, %d for %v", c, u, v, to[u], res, k, more)
			}
			if k < to[u] {
				seen.less++
			}
			if res[a] > 0 && k != to[u] {
				t.Fatalf("%v: the distance from %d to %d is %d for %v, %d for %v, where the same residual arcs are open", c, u, v, to[u], res, k, more)
			}
		}
	}
}

// checkExchanged checks that To is From with the residual capacities of each pair of residual arcs exchanged.
func checkExchanged(t *testing.T, c api.Csr, res []int64, to []int, v int) {
	t.Helper()
	other := make([]int64, len(res))
	for a, left := range res {
		other[c.Rev[a]] = left
	}
	if from := dist.From(c, other, v); !slices.Equal(to, from) {
		t.Fatalf("%v: To(%v, %d) is %v, From with %v is %v", c, res, v, to, other, from)
	}
	if back := dist.To(c, other, v); !slices.Equal(back, dist.From(c, res, v)) {
		t.Fatalf("%v: From(%v, %d) is not To with %v, which is %v", c, res, v, other, back)
	}
}
