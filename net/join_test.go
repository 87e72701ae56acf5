package net_test

import (
	"math"
	"slices"
	"testing"

	"acequia/api"
	"acequia/net"
)

// wantJoin is what the chapter says of Join, by comparing each arc to all those ahead of it.
func wantJoin(n api.Net) (api.Net, []int) {
	simple, part := api.Net{N: n.N, S: n.S, T: n.T}, []int{}
	for _, a := range n.Arcs {
		at := slices.IndexFunc(simple.Arcs, func(b api.Arc) bool { return a.From == b.From && a.To == b.To })
		switch {
		case a.From == a.To:
			part = append(part, -1)
		case at < 0:
			part = append(part, len(simple.Arcs))
			simple.Arcs = append(simple.Arcs, a)
		default:
			part = append(part, at)
			simple.Arcs[at].Cap += a.Cap
		}
	}
	return simple, part
}

// P1.3: Join, at the chapter's example and others.
func TestJoin(t *testing.T) {
	for _, x := range []struct {
		name       string
		arcs, want []api.Arc
		part       []int
	}{
		{"no arcs", nil, nil, nil},
		{"the example", []api.Arc{arc(0, 1, 2), arc(1, 1, 9), arc(0, 1, 3)}, []api.Arc{arc(0, 1, 5)}, []int{0, -1, 0}},
		{"simple already", example().Arcs, example().Arcs, []int{0, 1, 2, 3, 4}},
		{"self-loops alone", []api.Arc{arc(0, 0, 1), arc(3, 3, 2), arc(0, 0, 1)}, nil, []int{-1, -1, -1}},
		{"two directions are not parallel", []api.Arc{arc(1, 2, 3), arc(2, 1, 4), arc(1, 2, 5), arc(2, 1, 6)}, []api.Arc{arc(1, 2, 8), arc(2, 1, 10)}, []int{0, 1, 0, 1}},
		{"the order of the first ones", []api.Arc{arc(3, 2, 1), arc(0, 1, 2), arc(1, 2, 3), arc(0, 1, 4), arc(3, 2, 5), arc(0, 2, 6)}, []api.Arc{arc(3, 2, 6), arc(0, 1, 6), arc(1, 2, 3), arc(0, 2, 6)}, []int{0, 1, 2, 1, 0, 3}},
		{"a capacity of 0 stays an arc", []api.Arc{arc(0, 1, 0), arc(1, 2, 0), arc(0, 1, 0)}, []api.Arc{arc(0, 1, 0), arc(1, 2, 0)}, []int{0, 1, 0}},
		{"0 first, more behind it", []api.Arc{arc(0, 1, 0), arc(0, 1, 7)}, []api.Arc{arc(0, 1, 7)}, []int{0, 0}},
		{"MaxSum together", []api.Arc{arc(0, 1, 1<<61), arc(0, 1, 1<<61)}, []api.Arc{arc(0, 1, 1<<62)}, []int{0, 0}},
		{"MaxSum in a self-loop", []api.Arc{arc(1, 1, 1<<62), arc(0, 1, 0)}, []api.Arc{arc(0, 1, 0)}, []int{-1, 0}},
	} {
		n := api.Net{N: 4, S: 0, T: 3, Arcs: x.arcs}
		got, part := net.Join(n)
		if want := (api.Net{N: 4, S: 0, T: 3, Arcs: x.want}); !same(got, want) {
			t.Errorf("%s: the network is %v, want %v", x.name, got, want)
		}
		if !slices.Equal(part, x.part) {
			t.Errorf("%s: the list is %v, want %v", x.name, part, x.part)
		}
	}
}

// P1.3: N, S and T are kept.
func TestJoinKeepsEnds(t *testing.T) {
	n := api.Net{N: 1 << 12, S: 1<<12 - 1, T: 7, Arcs: []api.Arc{arc(1<<12-1, 7, 4), arc(1<<12-1, 7, 4)}}
	got, _ := net.Join(n)
	if want := (api.Net{N: 1 << 12, S: 1<<12 - 1, T: 7, Arcs: []api.Arc{arc(1<<12-1, 7, 8)}}); !same(got, want) {
		t.Error(got)
	}
}

// P1.3: as many arcs as there may be, all parallel, all different, and a mixture.
func TestJoinOfManyArcs(t *testing.T) {
	for name, ends := range map[string]func(i int) (int, int){
		"parallel":   func(i int) (int, int) { return 5, 6 },
		"self-loops": func(i int) (int, int) { return i % 9, i % 9 },
		"different":  func(i int) (int, int) { return i / (1 << 11), 1<<11 + i%(1<<11) },
		"mixed":      func(i int) (int, int) { return i * i % 31, i * 7 % 29 },
	} {
		n := api.Net{N: 1 << 12, S: 0, T: 1, Arcs: make([]api.Arc, 1<<14)}
		for i := range n.Arcs {
			from, to := ends(i)
			n.Arcs[i] = arc(from, to, int64(i))
		}
		got, part := net.Join(n)
		want, wantPart := wantJoin(n)
		if !same(got, want) || !slices.Equal(part, wantPart) {
			t.Errorf("%s: not what comparing all pairs of arcs gives", name)
		}
	}
}

// P1.3: of a network that is not valid nothing is returned.
func TestJoinOfWrongNets(t *testing.T) {
	for i, change := range []func(n *api.Net){
		func(n *api.Net) { n.N = 1 },
		func(n *api.Net) { n.N = 1<<12 + 1 },
		func(n *api.Net) { n.Arcs = make([]api.Arc, 1<<14+1) },
		func(n *api.Net) { n.S = n.T },
		func(n *api.Net) { n.T = 4 },
		func(n *api.Net) { n.Arcs[4].To = 4 },
		func(n *api.Net) { n.Arcs[4].From = -1 },
		func(n *api.Net) { n.Arcs[4].Cap = -1 },
		func(n *api.Net) { n.Arcs[4].Cap = math.MaxInt64 },
		func(n *api.Net) { n.Arcs = append(n.Arcs, arc(1, 1, 1<<62)) },
		func(n *api.Net) { *n = api.Net{} },
	} {
		n := example()
		change(&n)
		if got, part := net.Join(n); !same(got, api.Net{}) || len(part) != 0 {
			t.Errorf("change %d: Join is %v, %v", i, got, part)
		}
	}
}
