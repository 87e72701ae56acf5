package cut

import (
	"acequia/api"
	"acequia/csr"
	"acequia/flow"
)

// From returns the side of all vertices that are reached from the source; ErrFlow if f is not within the capacities.
func From(n api.Net, f []int64) ([]bool, api.Errno) {
	c, res, err := residual(n, f)
	if err != api.OK {
		return nil, err
	}
	return reached(c, c.S, func(a int) bool { return res[a] > 0 }), api.OK
}

// To returns the side of all vertices from which the sink is not reached; ErrFlow if f is not within the capacities.
func To(n api.Net, f []int64) ([]bool, api.Errno) {
	c, res, err := residual(n, f)
	if err != api.OK {
		return nil, err
	}
	// The search goes from the sink against the residual arcs: what counts is what is left of the reverse ones.
	side := reached(c, c.T, func(a int) bool { return res[c.Rev[a]] > 0 })
	for v, reaches := range side {
		side[v] = !reaches
	}
	return side, api.OK
}

// residual returns the residual network of n, and the residual capacities for f; ErrFlow if f is not within the capacities.
func residual(n api.Net, f []int64) (api.Csr, []int64, api.Errno) {
	c, err := csr.Make(n)
	// csr.Res alone would let pass any numbers of self-loops, and more numbers than arcs.
	if err != api.OK || !flow.Within(n, f) {
		return api.Csr{}, nil, api.ErrFlow
	}
	res, err := csr.Res(c, f)
	return c, res, err
}

// reached returns the side of all vertices that a search from start finds along residual arcs that are open.
func reached(c api.Csr, start int, open func(a int) bool) []bool {
	side := make([]bool, c.N)
	var found []int
	keep := func(v int) {
		if !side[v] {
			side[v] = true
			found = append(found, v)
		}
	}
	keep(start)
	// The list grows while it is gone through, so its length is asked each time.
	for i := 0; i < len(found); i++ {
		v := found[i]
		for a := c.First[v]; a < c.First[v+1]; a++ {
			if open(a) {
				keep(c.Head[a])
			}
		}
	}
	return side
}
