package net_test

import (
	"slices"
	"testing"

	"acequia/api"
	"acequia/net"
)

// withSpare is a network with self-loops, parallel arcs, and three arcs in the spare room behind its list, which belong to somebody else.
func withSpare() (api.Net, []api.Arc) {
	all := []api.Arc{arc(0, 1, 5), arc(1, 1, 2), arc(0, 1, 4), arc(2, 0, 3), arc(9, 9, 9), arc(8, 8, 8), arc(7, 7, 7)}
	return api.Net{N: 3, S: 0, T: 2, Arcs: all[:4]}, all
}

// scribble writes over a list, and over the spare room behind it.
func scribble[E any](list []E, with E) {
	list = list[:cap(list)]
	for i := range list {
		list[i] = with
	}
}

// R3: no call changes the network that it is given, nor the spare room of its list; nor does what is written to its results.
func TestArgumentsAreNotChanged(t *testing.T) {
	junk := arc(-1, -1, -1)
	for name, call := range map[string]func(n api.Net){
		"Check": func(n api.Net) { net.Check(n) },
		"Sum":   func(n api.Net) { net.Sum(n) },
		"Turn":  func(n api.Net) { scribble(net.Turn(n).Arcs, junk) },
		"Same":  func(n api.Net) { net.Same(n, net.Turn(n)); net.Same(n, n) },
		"Copy":  func(n api.Net) { scribble(net.Copy(n).Arcs, junk) },
		"Join":  func(n api.Net) { j, part := net.Join(n); scribble(j.Arcs, junk); scribble(part, 77) },
	} {
		n, all := withSpare()
		before := slices.Clone(all)
		call(n)
		if !slices.Equal(all, before) {
			t.Errorf("%s has changed its argument: %v, was %v", name, all, before)
		}
	}
}

// R3, P1.2: what a call has returned does not change with its argument.
func TestResultsAreNew(t *testing.T) {
	for name, call := range map[string]func(n api.Net) api.Net{
		"Turn": net.Turn,
		"Copy": net.Copy,
		"Join": func(n api.Net) api.Net { j, _ := net.Join(n); return j },
	} {
		n, all := withSpare()
		got := call(n)
		before := slices.Clone(got.Arcs)
		scribble(all, arc(-1, -1, -1))
		if !slices.Equal(got.Arcs, before) {
			t.Errorf("%s shares memory with its argument", name)
		}
	}
}

// R3: a simple network, which Join has nothing to leave out of, is new memory as well.
func TestJoinOfSimpleIsNew(t *testing.T) {
	n := example()
	got, _ := net.Join(n)
	scribble(n.Arcs, arc(-1, -1, -1))
	if !same(got, example()) {
		t.Error("Join shares memory with its argument")
	}
}

// R4: the same call gives the same answer again, and answers of two calls share no memory.
func TestCallsAreIndependent(t *testing.T) {
	n, _ := withSpare()
	first, firstPart := net.Join(n)
	scribble(first.Arcs, arc(-1, -1, -1))
	scribble(firstPart, 77)
	again, part := net.Join(n)
	want, wantPart := wantJoin(n)
	if !same(again, want) || !slices.Equal(part, wantPart) {
		t.Errorf("Join is %v, %v, want %v, %v", again, part, want, wantPart)
	}
	one, two := net.Copy(n), net.Copy(n)
	scribble(one.Arcs, arc(-1, -1, -1))
	if !same(two, n) {
		t.Error("two copies share memory")
	}
}
