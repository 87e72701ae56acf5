package cut_test

import (
	"slices"
	"testing"

	"acequia/api"
	"acequia/cut"
)

func checkReach(t *testing.T, n api.Net, f []int64, from, to []bool, wantErr api.Errno) {
	t.Helper()
	if got, err := cut.From(n, f); !slices.Equal(got, from) || err != wantErr {
		t.Errorf("From(%s, %s) is %s, %d, want %s, %d", brief(n), brief(f), brief(got), err, brief(from), wantErr)
	}
	if got, err := cut.To(n, f); !slices.Equal(got, to) || err != wantErr {
		t.Errorf("To(%s, %s) is %s, %d, want %s, %d", brief(n), brief(f), brief(got), err, brief(to), wantErr)
	}
}

// wantReach tells of each vertex which others it reaches, by paths over more and more of the vertices.
func wantReach(n api.Net, f []int64) [][]bool {
	reach := make([][]bool, n.N)
	for u := range reach {
		reach[u] = make([]bool, n.N)
		reach[u][u] = true
	}
	for i, a := range n.Arcs {
		reach[a.From][a.To] = reach[a.From][a.To] || f[i] < a.Cap
		reach[a.To][a.From] = reach[a.To][a.From] || f[i] > 0
	}
	for over := range n.N {
		for u := range n.N {
			for v := range n.N {
				reach[u][v] = reach[u][v] || reach[u][over] && reach[over][v]
			}
		}
	}
	return reach
}

// wantFromTo is the chapter's definition of From and To, for numbers within the capacities.
func wantFromTo(n api.Net, f []int64) (from, to []bool) {
	reach := wantReach(n, f)
	for v := range n.N {
		from, to = append(from, reach[n.S][v]), append(to, !reach[v][n.T])
	}
	return from, to
}

// P4.2: the chapter's example, and other numbers on its arcs, flows and others.
func TestReachInTheExample(t *testing.T) {
	for _, x := range []struct {
		name     string
		f        []int64
		from, to string
	}{
		{"the greatest flow", []int64{5, 4, 3, 6, 2}, "+---", "+++-"},
		{"a flow that is not greatest", []int64{3, 4, 3, 4, 0}, "++++", "----"},
		{"nothing flows", []int64{0, 0, 0, 0, 0}, "++++", "----"},
		{"a preflow", []int64{5, 4, 3, 4, 0}, "+---", "+---"},
		{"1 reaches T, neither S nor 2 does", []int64{5, 4, 2, 6, 0}, "+---", "+-+-"},
		{"1 reaches T, 2 does over 1, backward", []int64{5, 4, 2, 6, 2}, "+---", "+---"},
		{"2 reaches 1 backward", []int64{5, 3, 3, 6, 2}, "+++-", "+++-"},
		{"2 reaches nobody", []int64{5, 3, 3, 6, 0}, "+-+-", "+++-"},
		{"2 reaches T over 1, backward", []int64{5, 3, 2, 6, 1}, "++++", "----"},
		{"all at T, nothing at S", []int64{0, 0, 3, 6, 0}, "+++-", "+++-"},
		{"T reaches all backward, nobody T", []int64{5, 4, 3, 6, 0}, "+---", "+++-"},
	} {
		t.Run(x.name, func(t *testing.T) { checkReach(t, example(), x.f, side(x.from), side(x.to), api.OK) })
	}
}

// P4.2: self-loops, parallel arcs, arcs of no capacity, arcs against each other, arcs that are gone over backward only.
func TestReachOverKindsOfArcs(t *testing.T) {
	for _, x := range []struct {
		name     string
		arcs     []api.Arc
		f        []int64
		from, to string
	}{
		{"no arcs", nil, nil, "+---", "+++-"},
		{"self-loops", []api.Arc{arc(0, 0, 2), arc(1, 1, 2), arc(3, 3, 2)}, []int64{1, 2, 0}, "+---", "+++-"},
		{"no capacity", []api.Arc{arc(0, 1, 0), arc(1, 0, 0), arc(1, 3, 0)}, []int64{0, 0, 0}, "+---", "+++-"},
		{"room for one", []api.Arc{arc(0, 1, 2), arc(2, 3, 2)}, []int64{1, 1}, "++--", "++--"},
		{"no room", []api.Arc{arc(0, 1, 2), arc(2, 3, 2)}, []int64{2, 2}, "+---", "+++-"},
		{"parallel arcs, one full", []api.Arc{arc(0, 1, 2), arc(0, 1, 3), arc(1, 3, 2), arc(1, 3, 1)}, []int64{2, 2, 1, 1}, "++-+", "--+-"},
		{"parallel arcs, both full", []api.Arc{arc(0, 1, 2), arc(0, 1, 3), arc(1, 3, 2), arc(1, 3, 1)}, []int64{2, 3, 2, 1}, "+---", "+++-"},
		{"into S, empty", []api.Arc{arc(1, 0, 2)}, []int64{0}, "+---", "+++-"},
		{"into S, reached backward", []api.Arc{arc(1, 0, 2)}, []int64{1}, "++--", "+++-"},
		{"into S, full, reached backward", []api.Arc{arc(1, 0, 2)}, []int64{2}, "++--", "+++-"},
		{"out of T, empty", []api.Arc{arc(3, 2, 2)}, []int64{0}, "+---", "+++-"},
		{"out of T, reached backward", []api.Arc{arc(3, 2, 2)}, []int64{2}, "+---", "++--"},
		{"T reached backward only", []api.Arc{arc(1, 0, 2), arc(2, 1, 2), arc(3, 2, 2)}, []int64{2, 2, 2}, "++++", "----"},
		{"backward, and stopped by an empty one", []api.Arc{arc(1, 0, 2), arc(2, 1, 2), arc(3, 2, 2)}, []int64{2, 0, 2}, "++--", "++--"},
		{"against each other, one full, one empty", []api.Arc{arc(0, 1, 2), arc(1, 0, 2)}, []int64{2, 0}, "+---", "+++-"},
		{"against each other, both full", []api.Arc{arc(0, 1, 2), arc(1, 0, 2)}, []int64{2, 2}, "++--", "+++-"},
		{"a circle without S and T", []api.Arc{arc(1, 2, 1), arc(2, 1, 1)}, []int64{0, 0}, "+---", "+++-"},
		{"S reached, nothing from it", []api.Arc{arc(1, 0, 1), arc(2, 1, 1)}, []int64{0, 0}, "+---", "+++-"},
		{"from T on, but not to it", []api.Arc{arc(0, 1, 1), arc(3, 1, 1), arc(3, 2, 1)}, []int64{0, 0, 0}, "++--", "+++-"},
	} {
		t.Run(x.name, func(t *testing.T) {
			n := api.Net{N: 4, S: 0, T: 3, Arcs: x.arcs}
			checkReach(t, n, x.f, side(x.from), side(x.to), api.OK)
		})
	}
}

// P4.2, R2: numbers that are not within the capacities are ErrFlow, those of self-loops among them.
func TestReachOfWrongNumbers(t *testing.T) {
	for name, f := range wrongNumbers() {
		t.Run(name, func(t *testing.T) { checkReach(t, tangle(), f, nil, nil, api.ErrFlow) })
	}
	checkReach(t, api.Net{N: 2, S: 0, T: 1}, []int64{0}, nil, nil, api.ErrFlow)
	checkReach(t, api.Net{N: 2, S: 0, T: 1, Arcs: []api.Arc{arc(0, 0, 1)}}, nil, nil, nil, api.ErrFlow)
	checkReach(t, api.Net{N: 2, S: 0, T: 1, Arcs: []api.Arc{arc(0, 0, 1)}}, []int64{2}, nil, nil, api.ErrFlow)
}

// P4.2: all numbers on small networks give what they give by definition.
func TestAllReaches(t *testing.T) {
	checkNumbers := func(n api.Net, beyond int64) {
		allNumbers(n, beyond, func(f []int64) {
			if wantWithin(n, f) {
				from, to := wantFromTo(n, f)
				checkReach(t, n, f, from, to, api.OK)
			} else {
				checkReach(t, n, f, nil, nil, api.ErrFlow)
			}
			if t.Failed() {
				t.FailNow()
			}
		})
	}
	smallNets(func(n api.Net) { checkNumbers(n, 0) })
	checkNumbers(example(), 1)
	checkNumbers(tangle(), 0)
}

// chain leads from S to T over all other vertices; every third arc points against the way, and is gone over backward. All are open.
func chain() (api.Net, []int64) {
	n := api.Net{N: 1 << 12, S: 0, T: 1<<12 - 1}
	var f []int64
	for v := range n.N - 1 {
		if v%3 == 1 {
			n.Arcs, f = append(n.Arcs, arc(v+1, v, 2)), append(f, 2)
		} else {
			n.Arcs, f = append(n.Arcs, arc(v, v+1, 2)), append(f, 0)
		}
	}
	return n, f
}

// P4.2: a way over as many vertices as there may be, with one arc closed here and there; as many arcs as there may be.
func TestReachAtTheLimits(t *testing.T) {
	n, f := chain()
	all := slices.Repeat([]bool{true}, 1<<12)
	checkReach(t, n, f, all, make([]bool, 1<<12), api.OK)
	for _, closed := range []int{0, 1, 2, 2047, 2048, 2049, 4092, 4093, 4094} {
		shut := slices.Clone(f)
		shut[closed] = 2 - shut[closed]
		want := make([]bool, 1<<12)
		copy(want, all[:closed+1])
		checkReach(t, n, shut, want, want, api.OK)
	}
	n, f = chain()
	f[1000], f[3000] = 2-f[1000], 2-f[3000]
	checkReach(t, n, f, slices.Concat(all[:1001], make([]bool, 1<<12-1001)), slices.Concat(all[:3001], make([]bool, 1<<12-3001)), api.OK)

	checkReach(t, api.Net{N: 1 << 12, S: 1<<12 - 1, T: 0}, nil, slices.Concat(make([]bool, 1<<12-1), all[:1]), slices.Concat(make([]bool, 1), all[1:]), api.OK)
	many := api.Net{N: 2, S: 0, T: 1, Arcs: slices.Repeat([]api.Arc{arc(0, 1, 1<<48)}, 1<<14)}
	full := caps(many)
	checkReach(t, many, full, side("+-"), side("+-"), api.OK)
	full[1<<14-1]--
	checkReach(t, many, full, side("++"), side("--"), api.OK)
}
