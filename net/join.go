package net

import "acequia/api"

// ends is what parallel arcs have in common.
type ends struct{ from, to int }

// noArc stands for the arc of a self-loop, which a simple network does not have.
const noArc = -1

// Join returns the simple network of a valid one, and for each arc of n the arc there that it is part of, -1 for a self-loop.
func Join(n api.Net) (api.Net, []int) {
	if Check(n) != api.OK {
		return api.Net{}, nil
	}
	simple := api.Net{N: n.N, S: n.S, T: n.T}
	part := make([]int, len(n.Arcs))
	places := make(map[ends]int)
	for i, a := range n.Arcs {
		if a.From == a.To {
			part[i] = noArc
			continue
		}
		between := ends{a.From, a.To}
		at, known := places[between]
		if !known {
			at = len(simple.Arcs)
			places[between] = at
			simple.Arcs = append(simple.Arcs, api.Arc{From: a.From, To: a.To})
		}
		simple.Arcs[at].Cap += a.Cap
		part[i] = at
	}
	return simple, part
}
