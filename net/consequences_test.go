package net_test

import (
	"math"
	"slices"
	"testing"

	"acequia/api"
	"acequia/net"
)

// smallNets calls f with networks of three vertices, S and T below, at and beyond their bounds, and up to two arcs of all ends and of capacities of all kinds.
func smallNets(f func(n api.Net)) {
	var arcs []api.Arc
	for from := -1; from <= 3; from++ {
		for to := -1; to <= 3; to++ {
			for _, c := range []int64{-1, 0, 2, 1 << 62} {
				arcs = append(arcs, arc(from, to, c))
			}
		}
	}
	for _, ends := range [][2]int{{0, 2}, {2, 1}, {1, 1}, {-1, 0}, {0, 3}} {
		n := api.Net{N: 3, S: ends[0], T: ends[1]}
		f(n)
		for _, a := range arcs {
			n.Arcs = []api.Arc{a}
			f(n)
			for _, b := range arcs {
				n.Arcs = []api.Arc{a, b}
				f(n)
			}
		}
	}
}

// validNets calls f with all networks of three vertices with three arcs of small capacities.
func validNets(f func(n api.Net)) {
	var arcs []api.Arc
	for from := range 3 {
		for to := range 3 {
			arcs = append(arcs, arc(from, to, 0), arc(from, to, 2), arc(from, to, 5))
		}
	}
	for _, a := range arcs {
		for _, b := range arcs {
			for _, c := range arcs {
				f(api.Net{N: 3, S: 1, T: 0, Arcs: []api.Arc{a, b, c}})
			}
		}
	}
}

// wantCheck is the chapter's list of conditions, written anew.
func wantCheck(n api.Net) api.Errno {
	vert := func(v int) bool { return v >= 0 && v < n.N }
	badArc := func(a api.Arc) bool { return !vert(a.From) || !vert(a.To) }
	badCap := func(a api.Arc) bool { return a.Cap < 0 }
	switch _, ok := wantSum(n); {
	case n.N < 2 || n.N > 4096:
		return api.ErrVerts
	case len(n.Arcs) > 16384:
		return api.ErrArcs
	case !vert(n.S) || !vert(n.T) || n.S == n.T:
		return api.ErrEnds
	case slices.ContainsFunc(n.Arcs, badArc):
		return api.ErrArc
	case slices.ContainsFunc(n.Arcs, badCap):
		return api.ErrCap
	case !ok:
		return api.ErrSum
	}
	return api.OK
}

// P1.1, P1.3, P1.4: Check and Sum are what they are by definition; a reversed network has the same error, and reversed again it is what it was; Join has an answer for valid networks alone.
func TestAllSmallNets(t *testing.T) {
	seen := map[api.Errno]int{}
	smallNets(func(n api.Net) {
		err := net.Check(n)
		seen[err]++
		if want := wantCheck(n); err != want {
			t.Fatalf("Check(%v) is %d, want %d", n, err, want)
		}
		sum, ok := net.Sum(n)
		if wantS, wantOK := wantSum(n); sum != wantS || ok != wantOK {
			t.Fatalf("Sum(%v) is %d, %t, want %d, %t", n, sum, ok, wantS, wantOK)
		}
		turned := net.Turn(n)
		if got := net.Check(turned); got != err {
			t.Fatalf("reversed, %v has the error %d, not %d", n, got, err)
		}
		if !same(net.Turn(turned), n) {
			t.Fatalf("reversed twice, %v is %v", n, net.Turn(turned))
		}
		if j, _ := net.Join(n); same(j, api.Net{}) != (err != api.OK) {
			t.Fatalf("Join(%v) is %v", n, j)
		}
	})
	for _, err := range []api.Errno{api.OK, api.ErrEnds, api.ErrArc, api.ErrCap, api.ErrSum} {
		if seen[err] == 0 {
			t.Errorf("no network had the error %d", err)
		}
	}
}

// P1.4: a reversed network has the same error where there are too few or too many of something.
func TestTurnKeepsErrors(t *testing.T) {
	for _, n := range []api.Net{
		{},
		{N: 1},
		{N: 1<<12 + 1, T: 1},
		{N: math.MinInt, S: 3, T: 4},
		{N: 2, T: 1, Arcs: make([]api.Arc, 1<<14)},
		{N: 2, T: 1, Arcs: make([]api.Arc, 1<<14+1)},
	} {
		turned := net.Turn(n)
		if got, want := net.Check(turned), wantCheck(n); got != want {
			t.Errorf("N %d, %d arcs: reversed, the error is %d, want %d", n.N, len(n.Arcs), got, want)
		}
		if !same(net.Turn(turned), n) {
			t.Errorf("N %d, %d arcs: reversed twice, it has changed", n.N, len(n.Arcs))
		}
	}
}

// P1.3, P1.4: a simple network is valid, has no self-loops and no parallel arcs, and is its own simple network.
func TestSimpleNets(t *testing.T) {
	validNets(func(n api.Net) {
		simple, part := net.Join(n)
		want, wantPart := wantJoin(n)
		if !same(simple, want) || !slices.Equal(part, wantPart) {
			t.Fatalf("Join(%v) is %v, %v, want %v, %v", n, simple, part, want, wantPart)
		}
		if err := net.Check(simple); err != api.OK {
			t.Fatalf("Join(%v) has the error %d", n, err)
		}
		for i, a := range simple.Arcs {
			if a.From == a.To {
				t.Fatalf("Join(%v) has a self-loop", n)
			}
			for _, b := range simple.Arcs[:i] {
				if a.From == b.From && a.To == b.To {
					t.Fatalf("Join(%v) has parallel arcs", n)
				}
			}
		}
		again, places := net.Join(simple)
		if !same(again, simple) || len(places) != len(simple.Arcs) {
			t.Fatalf("Join(%v) is not its own simple network", n)
		}
		for i, p := range places {
			if p != i {
				t.Fatalf("Join(%v): arc %d of the simple network is moved to %d", n, i, p)
			}
		}
	})
}
