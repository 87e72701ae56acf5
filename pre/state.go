package pre

import (
	"iter"
	"slices"

	"acequia/api"
	"acequia/csr"
)

// row yields the residual arcs of u, in increasing order.
func row(c api.Csr, u int) iter.Seq[int] {
	return func(yield func(a int) bool) {
		for a := c.First[u]; a < c.First[u+1]; a++ {
			if !yield(a) {
				return
			}
		}
	}
}

// open yields those of the residual arcs of u that are open.
func open(c api.Csr, p api.Pre, u int) iter.Seq[int] {
	return func(yield func(a int) bool) {
		for a := range row(c, u) {
			if p.Res[a] > 0 && !yield(a) {
				return
			}
		}
	}
}

// admissible returns the admissible residual arcs of u, in increasing order.
func admissible(c api.Csr, p api.Pre, u int) []int {
	var down []int
	for a := range open(c, p, u) {
		if p.H[u] == p.H[c.Head[a]]+1 {
			down = append(down, a)
		}
	}
	return down
}

// lowest returns the least height of the ends of the open residual arcs of u; false if there are none, which no active vertex of a valid state has.
func lowest(c api.Csr, p api.Pre, u int) (int, bool) {
	low, found := 0, false
	for a := range open(c, p, u) {
		if height := p.H[c.Head[a]]; !found || height < low {
			low, found = height, true
		}
	}
	return low, found
}

// vertices returns the vertices for which the answer is yes, in increasing order.
func vertices(c api.Csr, asked func(v int) bool) []int {
	var list []int
	for v := range c.N {
		if asked(v) {
			list = append(list, v)
		}
	}
	return list
}

func isActive(c api.Csr, p api.Pre, v int) bool {
	return v != c.S && v != c.T && p.Ex[v] > 0
}

// move moves d along a, from the vertex where it begins to the one where it ends.
func move(c api.Csr, p api.Pre, a int, d int64) {
	back := c.Rev[a]
	p.Res[a] -= d
	p.Res[back] += d
	p.Ex[c.Head[back]] -= d
	p.Ex[c.Head[a]] += d
}

// within reports whether res are the residual capacities for some numbers within the capacities.
func within(c api.Csr, res []int64) bool {
	// How many arcs the network has is not told; those behind the last one with residual arcs do not matter.
	arcs := 0
	for _, i := range c.Arc {
		arcs = max(arcs, i+1)
	}
	_, err := csr.Flow(c, res, arcs)
	return err == api.OK
}

// rightExcess reports whether the excess of v is what the residual capacities say, and not negative, but for the source.
func rightExcess(c api.Csr, p api.Pre, v int) bool {
	var excess int64
	for a := range row(c, v) {
		// A forward residual arc has lost what its arc takes out of v, a backward one has gained what its arc brings in.
		excess += p.Res[a] - c.Cap[a]
	}
	return p.Ex[v] == excess && (excess >= 0 || v == c.S)
}

// rightHeight reports whether the height of u is one that it may have, and no open residual arc of u leads down by more than 1.
func rightHeight(c api.Csr, p api.Pre, u int) bool {
	if p.H[u] < 0 || p.H[u] >= 2*c.N {
		return false
	}
	for a := range open(c, p, u) {
		if p.H[u] > p.H[c.Head[a]]+1 {
			return false
		}
	}
	return true
}

// fit reports whether c is sound, and p has a residual capacity for each residual arc, and an excess and a height for each vertex.
func fit(c api.Csr, p api.Pre) bool {
	return sound(c) && len(p.Res) == csr.Len(c) && len(p.Ex) == c.N && len(p.H) == c.N
}

// sound reports whether every number in c that is used as an index may be one. All that csr.Make returns is so; a caller's own lists need not be.
func sound(c api.Csr) bool {
	arcs := csr.Len(c)
	if len(c.Rev) != arcs || len(c.Cap) != arcs || len(c.First)-1 != c.N || !isIndex(c.S, c.N) || !isIndex(c.T, c.N) {
		return false
	}
	if c.First[0] < 0 || c.First[c.N] > arcs || !slices.IsSorted(c.First) {
		return false
	}
	return allIndices(c.Head, c.N) && allIndices(c.Rev, arcs)
}

func allIndices(list []int, length int) bool {
	return !slices.ContainsFunc(list, func(i int) bool { return !isIndex(i, length) })
}

func isIndex(i, length int) bool {
	return 0 <= i && i < length
}
