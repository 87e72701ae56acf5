package fifo

import (
	"slices"

	"acequia/api"
	"acequia/csr"
)

// made reports whether c is what csr.Make returns for some network: for that of which its own forward residual arcs tell, then.
func made(c api.Csr) bool {
	again, err := csr.Make(network(c))
	return err == api.OK && same(c, again)
}

// network returns the network of which the forward residual arcs of c tell. An arc that has none is a self-loop, whose end and capacity do not matter.
func network(c api.Csr) api.Net {
	arcs := 0
	for _, i := range c.Arc {
		arcs = max(arcs, i+1)
	}
	n := api.Net{N: c.N, S: c.S, T: c.T}
	for _, a := range csr.Forward(c, arcs) {
		var arc api.Arc
		if from, ok := csr.Tail(c, a); ok {
			arc = api.Arc{From: from, To: c.Head[a], Cap: c.Cap[a]}
		}
		n.Arcs = append(n.Arcs, arc)
	}
	return n
}

func same(a, b api.Csr) bool {
	return slices.Equal(a.First, b.First) && slices.Equal(a.Head, b.Head) && slices.Equal(a.Rev, b.Rev) &&
		slices.Equal(a.Cap, b.Cap) && slices.Equal(a.Arc, b.Arc) && slices.Equal(a.Back, b.Back)
}
