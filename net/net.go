// Package net is layer 1, flow networks: it checks them, reverses them, and makes them simple.
package net

import (
	"slices"

	"acequia/api"
)

// Check returns the error of the first condition that n breaks, OK if n is valid.
func Check(n api.Net) api.Errno {
	for _, c := range conditions() {
		if !c.holds(n) {
			return c.err
		}
	}
	return api.OK
}

// Sum returns the sum of all capacities; 0 and false if one is negative, or if the sum is above api.MaxSum.
func Sum(n api.Net) (int64, bool) {
	var sum int64
	for _, a := range n.Arcs {
		// The room that is left is compared, as the sum itself could wrap round.
		if a.Cap < 0 || a.Cap > api.MaxSum-sum {
			return 0, false
		}
		sum += a.Cap
	}
	return sum, true
}

// Turn returns the reversed network.
func Turn(n api.Net) api.Net {
	turned := Copy(n)
	turned.S, turned.T = n.T, n.S
	for i, a := range n.Arcs {
		turned.Arcs[i] = api.Arc{From: a.To, To: a.From, Cap: a.Cap}
	}
	return turned
}

// Same reports whether both networks have the same vertices, ends and arcs, in the same order.
func Same(a, b api.Net) bool {
	return a.N == b.N && a.S == b.S && a.T == b.T && slices.Equal(a.Arcs, b.Arcs)
}

// Copy returns n in memory of its own.
func Copy(n api.Net) api.Net {
	arcs := make([]api.Arc, len(n.Arcs))
	copy(arcs, n.Arcs)
	return api.Net{N: n.N, S: n.S, T: n.T, Arcs: arcs}
}
