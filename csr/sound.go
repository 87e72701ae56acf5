package csr

import "acequia/api"

// wellFormed reports whether every index that the residual arcs of c hold may be used. All that Make returns is so; a caller's own lists need not be.
func wellFormed(c api.Csr) bool {
	arcs := Len(c)
	if len(c.Rev) != arcs || len(c.Cap) != arcs || len(c.Arc) != arcs || len(c.Back) != arcs {
		return false
	}
	for a := range arcs {
		if !isIndex(c.Rev[a], arcs) || c.Arc[a] < 0 {
			return false
		}
	}
	return true
}

// within reports whether f has a number from 0 to the capacity for each arc with residual arcs.
func within(c api.Csr, f []int64) bool {
	if !allBelow(c.Arc, len(f)) {
		return false
	}
	for a := range Len(c) {
		sent := f[c.Arc[a]]
		if !c.Back[a] && (sent < 0 || sent > c.Cap[a]) {
			return false
		}
	}
	return true
}

// balanced reports whether no number of res is negative, and the two of each arc have its capacity as their sum.
func balanced(c api.Csr, res []int64) bool {
	for a := range Len(c) {
		if res[a] < 0 {
			return false
		}
		// The difference is compared, as the sum could wrap round.
		if !c.Back[a] && res[c.Rev[a]] != c.Cap[a]-res[a] {
			return false
		}
	}
	return true
}

func allBelow(list []int, bound int) bool {
	for _, x := range list {
		if x >= bound {
			return false
		}
	}
	return true
}

func isIndex(i, length int) bool {
	return 0 <= i && i < length
}

// isCount reports whether a network can have so many arcs.
func isCount(arcs int) bool {
	return 0 <= arcs && arcs <= api.MaxArcs
}
