package csr

import (
	"slices"

	"acequia/api"
)

// empty returns the residual network of a valid network with its rows laid out, but nothing in them yet.
func empty(n api.Net) api.Csr {
	first := firsts(n)
	arcs := first[n.N]
	return api.Csr{
		N: n.N, S: n.S, T: n.T,
		First: first,
		Head:  make([]int, arcs),
		Rev:   make([]int, arcs),
		Cap:   make([]int64, arcs),
		Arc:   make([]int, arcs),
		Back:  make([]bool, arcs),
	}
}

// firsts counts the residual arcs of each vertex, and returns where the rows begin, and behind these where the last one ends.
func firsts(n api.Net) []int {
	first := make([]int, n.N+1)
	for i := range len(n.Arcs) {
		if a := n.Arcs[i]; !isLoop(a) {
			first[a.From+1]++
			first[a.To+1]++
		}
	}
	for v := range n.N {
		first[v+1] += first[v]
	}
	return first
}

// write puts both residual arcs of each arc into the rows of c. It goes through the arcs in order, so that each row is in that order, too.
func write(c api.Csr, arcs []api.Arc) {
	free := slices.Clone(c.First)
	put := func(i int, a api.Arc, back bool) int {
		at := free[a.From]
		free[a.From]++
		c.Head[at], c.Cap[at], c.Arc[at], c.Back[at] = a.To, a.Cap, i, back
		return at
	}
	for i := range len(arcs) {
		a := arcs[i]
		if isLoop(a) {
			continue
		}
		there := put(i, a, false)
		back := put(i, api.Arc{From: a.To, To: a.From}, true)
		c.Rev[there], c.Rev[back] = back, there
	}
}

func isLoop(a api.Arc) bool {
	return a.From == a.To
}
