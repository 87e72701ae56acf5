package dist

import (
	"slices"

	"acequia/api"
	"acequia/csr"
)

// search goes through a residual network from one vertex, each residual arc from the vertex in whose row it is to its head.
type search struct {
	c    api.Csr
	open func(a int) bool // whether the search goes along a
}

// distances returns how many residual arcs the search goes along from start to each vertex; the number of vertices for one that it does not find.
func (s search) distances(start int) []int {
	none := s.c.N
	far := slices.Repeat([]int{none}, s.c.N)
	far[start] = 0
	queue := []int{start}
	// The queue grows while it is gone through, so its length is asked each time.
	for i := 0; i < len(queue); i++ {
		v := queue[i]
		for a := s.c.First[v]; a < s.c.First[v+1]; a++ {
			if u := s.c.Head[a]; far[u] == none && s.open(a) {
				far[u] = far[v] + 1
				queue = append(queue, u)
			}
		}
	}
	return far
}

// fit reports whether there is a number for each residual arc, and every index that c holds may be used. All that csr.Make returns may be; a caller's own lists need not.
func fit(c api.Csr, res []int64) bool {
	arcs := csr.Len(c)
	if len(res) != arcs || len(c.Rev) != arcs || len(c.First) == 0 || len(c.First)-1 != c.N {
		return false
	}
	if c.First[0] < 0 || c.First[c.N] > arcs || !slices.IsSorted(c.First) {
		return false
	}
	for a := range arcs {
		if !isIndex(c.Head[a], c.N) || !isIndex(c.Rev[a], arcs) {
			return false
		}
	}
	return true
}

func isIndex(i, length int) bool {
	return 0 <= i && i < length
}
