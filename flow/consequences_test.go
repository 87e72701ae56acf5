package flow_test

import (
	"slices"
	"testing"

	"acequia/api"
	"acequia/flow"
	"acequia/net"
)

// P3.3: the sum of all excesses is 0, the value of a flow is minus the excess of S, and a flow is a flow of the reversed network with the same value.
func TestConsequencesForFlows(t *testing.T) {
	positive, negative := 0, 0
	smallNets(func(n api.Net) {
		turned := net.Turn(n)
		lists(len(n.Arcs), 0, 2, func(f []int64) {
			excess, err := flow.Excess(n, f)
			if err != api.OK {
				return
			}
			sum := int64(0)
			for _, x := range excess {
				sum += x
			}
			if sum != 0 {
				t.Fatalf("the sum of Excess(%v, %v) is %d", n, f, sum)
			}
			value, err := flow.Value(n, f)
			back, backErr := flow.Value(turned, f)
			if err != backErr || value != back || flow.Right(n, f) != flow.Right(turned, f) {
				t.Fatalf("Value(%v, %v) is %d, %d; reversed it is %d, %d", n, f, value, err, back, backErr)
			}
			if err == api.OK && value != -excess[n.S] {
				t.Fatalf("Value(%v, %v) is %d; the excess of S is %d", n, f, value, excess[n.S])
			}
			if value > 0 {
				positive++
			} else if value < 0 {
				negative++
			}
		})
	})
	if positive == 0 || negative == 0 {
		t.Errorf("%d flows have a positive value, %d a negative one", positive, negative)
	}
}

// allHops calls f with all lists of up to most hops along arcs from -1 to arcs.
func allHops(arcs, most int, f func(l []api.Hop)) {
	var grow func(l []api.Hop)
	grow = func(l []api.Hop) {
		f(l)
		if len(l) == most {
			return
		}
		for i := -1; i <= arcs; i++ {
			grow(append(slices.Clip(l), api.Hop{Arc: i}))
			grow(append(slices.Clip(l), api.Hop{Arc: i, Back: true}))
		}
	}
	grow(nil)
}

// wantEnds walks along a path: the vertices where it begins and ends, and whether it is one.
func wantEnds(n api.Net, l []api.Hop) (first, last int, ok bool) {
	for i, h := range l {
		if h.Arc < 0 || h.Arc >= len(n.Arcs) {
			return 0, 0, false
		}
		from, to := n.Arcs[h.Arc].From, n.Arcs[h.Arc].To
		if h.Back {
			from, to = to, from
		}
		if i == 0 {
			first, last = from, from
		}
		if from != last {
			return 0, 0, false
		}
		last = to
	}
	return first, last, true
}

// wantSend goes hop by hop: it adds and subtracts, and looks at the end alone.
func wantSend(f []int64, l []api.Hop, d int64) []int64 {
	sent := slices.Clone(f)
	for _, h := range l {
		if h.Back {
			sent[h.Arc] -= d
		} else {
			sent[h.Arc] += d
		}
	}
	return sent
}

// wantRoom tries one number after the other: as long as what is sent stays within the capacities, there is room.
func wantRoom(n api.Net, f []int64, l []api.Hop) int64 {
	if slices.Equal(wantSend(f, l, 1), f) {
		return 1 << 62
	}
	room := int64(0)
	for wantWhat(n, wantSend(f, l, room+1)).within {
		room++
	}
	return room
}

// pathNets are small networks with different paths: a ring with a chord, parallel arcs with a self-loop, two directions with arcs of no capacity.
func pathNets() []api.Net {
	return []api.Net{
		{N: 2, S: 0, T: 1},
		{N: 3, S: 0, T: 2, Arcs: []api.Arc{arc(0, 1, 3), arc(1, 2, 2), arc(2, 0, 5)}},
		{N: 2, S: 0, T: 1, Arcs: []api.Arc{arc(0, 1, 2), arc(0, 1, 5), arc(1, 1, 4)}},
		{N: 2, S: 1, T: 0, Arcs: []api.Arc{arc(0, 1, 4), arc(1, 0, 3), arc(0, 1, 0)}},
		{N: 3, S: 2, T: 1, Arcs: []api.Arc{arc(2, 2, 3), arc(2, 0, 4)}},
	}
}

// P3.2, P3.3: of all lists of hops, paths alone have a room; it is as much as stays within the capacities; what is sent changes the excesses of the first and the last vertex alone.
func TestAllPaths(t *testing.T) {
	for _, n := range pathNets() {
		for _, part := range []int64{0, 1, 2, 3} {
			f := make([]int64, len(n.Arcs))
			for i, a := range n.Arcs {
				f[i] = a.Cap * part / 3
			}
			allHops(len(n.Arcs), 4, func(l []api.Hop) {
				checkAnyPath(t, n, f, l)
				if t.Failed() {
					t.FailNow()
				}
			})
		}
	}
}

func checkAnyPath(t *testing.T, n api.Net, f []int64, l []api.Hop) {
	t.Helper()
	first, last, ok := wantEnds(n, l)
	if !ok {
		checkRoom(t, n, f, l, 0, api.ErrArc)
		for _, d := range []int64{-1, 0, 1, 1 << 62} {
			checkSend(t, n, f, l, d, nil, api.ErrArc)
		}
		return
	}
	room := wantRoom(n, f, l)
	checkRoom(t, n, f, l, room, api.OK)
	checkSend(t, n, f, l, -1, nil, api.ErrArg)
	checkSend(t, n, f, l, room+1, nil, api.ErrArg)
	before, _ := flow.Excess(n, f)
	for _, d := range []int64{0, 1, room / 2, room} {
		if d > room {
			continue
		}
		sent, err := flow.Send(n, f, l, d)
		if err != api.OK || !slices.Equal(sent, wantSend(f, l, d)) {
			t.Errorf("Send(%v, %v, %v, %d) is %v, %d", n, f, l, d, sent, err)
		}
		want := slices.Clone(before)
		if len(l) > 0 {
			want[first] -= d
			want[last] += d
		}
		if after, err := flow.Excess(n, sent); err != api.OK || !slices.Equal(after, want) {
			t.Errorf("%d sent along %v in %v, %v: the excesses are %v, %d, want %v", d, l, n, f, after, err, want)
		}
	}
}

// P3.3: what is sent from S to T is added to the value of a flow; what is sent along a circle is not.
func TestSendAddsToTheValue(t *testing.T) {
	n, f := example(), []int64{1, 3, 1, 3, 0}
	for _, x := range []struct {
		path  string
		value int64
	}{
		{"0 2", 6}, {"0 4 3", 6}, {"1 3", 5}, {"2b 0b", 3}, {"3b 1b", 1}, {"0 4 1b", 4}, {"0 0b", 4}, {"", 4}, {"0 4 1b 0 2", 6},
	} {
		room, err := flow.Room(n, f, hops(x.path))
		if err != api.OK {
			t.Fatalf("%q is no path: %d", x.path, err)
		}
		sent, _ := flow.Send(n, f, hops(x.path), room)
		if value, err := flow.Value(n, sent); value != x.value || err != api.OK {
			t.Errorf("%d along %q: the value of %v is %d, %d, want %d", room, x.path, sent, value, err, x.value)
		}
	}
}
