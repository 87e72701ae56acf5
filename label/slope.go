package label

import (
	"slices"

	"acequia/api"
	"acequia/csr"
)

// sloping returns the open residual arcs whose drop, by how much their end is lower than their beginning, is one that is asked for; nothing if the arguments do not fit.
func sloping(c api.Csr, res []int64, h []int, asked func(drop int) bool) []int {
	if !fit(c, res, h) {
		return nil
	}
	return chosen(res, func(a int, left int64) bool {
		u, ok := csr.Tail(c, a)
		// The source stays as high as it is, so that what is open from it does not count.
		return ok && left > 0 && u != c.S && asked(h[u]-h[c.Head[a]])
	})
}

// chosen returns the indices of the elements that are picked, in increasing order.
func chosen[E any](list []E, pick func(i int, e E) bool) []int {
	var indices []int
	for i, e := range list {
		if pick(i, e) {
			indices = append(indices, i)
		}
	}
	return indices
}

// fit reports whether there is a number for each residual arc, h are heights, and the rows and the heads of c may be used as indices (csr.Tail asks the reverses itself). All that csr.Make returns may be; a caller's own lists need not.
func fit(c api.Csr, res []int64, h []int) bool {
	arcs := csr.Len(c)
	if len(res) != arcs || len(c.First)-1 != c.N || !Right(c, h) {
		return false
	}
	if c.First[0] < 0 || c.First[c.N] > arcs || !slices.IsSorted(c.First) {
		return false
	}
	return !slices.ContainsFunc(c.Head, func(v int) bool { return !isIndex(v, c.N) })
}

func isIndex(i, length int) bool {
	return 0 <= i && i < length
}
