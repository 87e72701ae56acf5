package relaxed

import (
	"acequia/api"
	"acequia/csr"
)

// fit reports whether c and p have a number of each kind for each residual arc, and for each vertex.
func fit(c api.Csr, p api.Pre) bool {
	arcs := csr.Len(c)
	return len(c.Rev) == arcs && len(c.Cap) == arcs && len(c.Back) == arcs && len(p.Res) == arcs &&
		len(c.First)-1 == c.N && len(p.Ex) == c.N && len(p.H) == c.N
}

// ends returns the vertices where the residual arc a begins and ends; false if it is none. A caller's own lists may name vertices that do not exist, which is none, either.
func ends(c api.Csr, a int) (int, int, bool) {
	u, ok := csr.Tail(c, a)
	if !ok || !isIndex(a, csr.Len(c)) || !isIndex(u, c.N) || !isIndex(c.Head[a], c.N) {
		return 0, 0, false
	}
	return u, c.Head[a], true
}

// rightRes reports whether no residual capacity is negative, and the two of each arc are together what both capacities are.
func rightRes(c api.Csr, res []int64) bool {
	for a, left := range res {
		back := c.Rev[a]
		// The difference is compared, as the sum of two residual capacities could wrap round.
		if left < 0 || !isIndex(back, len(res)) || res[back] != c.Cap[a]+c.Cap[back]-left {
			return false
		}
	}
	return true
}

// rightExcesses reports whether the excess of each vertex is what comes in minus what goes out, and not negative, but for the source.
func rightExcesses(c api.Csr, p api.Pre) bool {
	for v, excess := range excesses(c, p.Res) {
		if p.Ex[v] != excess || excess < 0 && v != c.S {
			return false
		}
	}
	return true
}

// excesses returns for each vertex what comes in, minus what goes out.
func excesses(c api.Csr, res []int64) []int64 {
	list := make([]int64, c.N)
	for a, sent := range res {
		// An arc ends where its backward residual arc begins, which has what is sent along it.
		if to, from, ok := ends(c, a); ok && c.Back[a] {
			list[to] += sent
			list[from] -= sent
		}
	}
	return list
}

// rightHeights reports whether the height of the source is N, that of the sink 0, and none is out of its bounds.
func rightHeights(c api.Csr, h []int) bool {
	for v, height := range h {
		if height < 0 || height > 2*c.N || v == c.S && height != c.N || v == c.T && height != 0 {
			return false
		}
	}
	return true
}

func isIndex(i, length int) bool {
	return 0 <= i && i < length
}
