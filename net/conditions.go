package net

import "acequia/api"

// condition is one of those that make a network valid, and the error of a network that breaks it.
type condition struct {
	holds func(n api.Net) bool
	err   api.Errno
}

// conditions returns them in the order of their errors: the first one that is broken is told.
func conditions() [6]condition {
	return [6]condition{
		{vertsInRange, api.ErrVerts},
		{arcsInRange, api.ErrArcs},
		{endsDiffer, api.ErrEnds},
		{arcsBetweenVerts, api.ErrArc},
		{capsNotNegative, api.ErrCap},
		{sumInRange, api.ErrSum},
	}
}

func vertsInRange(n api.Net) bool {
	return 2 <= n.N && n.N <= api.MaxVerts
}

func arcsInRange(n api.Net) bool {
	return len(n.Arcs) <= api.MaxArcs
}

func endsDiffer(n api.Net) bool {
	return isVert(n, n.S) && isVert(n, n.T) && n.S != n.T
}

func arcsBetweenVerts(n api.Net) bool {
	for _, a := range n.Arcs {
		if !isVert(n, a.From) || !isVert(n, a.To) {
			return false
		}
	}
	return true
}

func capsNotNegative(n api.Net) bool {
	for _, a := range n.Arcs {
		if a.Cap < 0 {
			return false
		}
	}
	return true
}

func sumInRange(n api.Net) bool {
	_, ok := Sum(n)
	return ok
}

func isVert(n api.Net, v int) bool {
	return 0 <= v && v < n.N
}
