package fifo_test

import (
	"slices"
	"testing"

	"acequia/api"
	"acequia/csr"
	"acequia/cut"
	"acequia/fifo"
	"acequia/flow"
	"acequia/pre"
)

// leastCut is the least capacity of all cuts, one by one.
func leastCut(n api.Net) int64 {
	least := int64(-1)
	for set := range 1 << n.N {
		if set>>n.S&1 == 0 || set>>n.T&1 == 1 {
			continue
		}
		var sum int64
		for _, a := range n.Arcs {
			if set>>a.From&1 == 1 && set>>a.To&1 == 0 {
				sum += a.Cap
			}
		}
		if least < 0 || sum < least {
			least = sum
		}
	}
	return least
}

// checkAnswer checks what P8.2 and P8.3 say of an answer, and returns its value.
func checkAnswer(t *testing.T, n api.Net) int64 {
	t.Helper()
	a, w := mustSolve(t, n)
	if !flow.Right(n, a.Flow) || !cut.Tight(n, a.Flow, a.Side) {
		t.Fatalf("%s: %s is not a flow with a tight cut", brief(n), brief(a))
	}
	value, err := flow.Value(n, a.Flow)
	worth, err2 := cut.Cap(n, a.Side)
	if value != a.Value || worth != a.Value || err != api.OK || err2 != api.OK {
		t.Fatalf("%s: the flow of %s is worth %d, %d, its cut %d, %d", brief(n), brief(a), value, err, worth, err2)
	}
	if to, err := cut.To(n, a.Flow); !slices.Equal(a.Side, to) || err != api.OK {
		t.Fatalf("%s: the side of %s should be %s, %d", brief(n), brief(a), brief(to), err)
	}
	checkEnd(t, n, a, w)
	return a.Value
}

// checkEnd checks that an answer is that of the end of the run from the first state, with no more work than there may be.
func checkEnd(t *testing.T, n api.Net, a api.Answer, w api.Work) {
	t.Helper()
	c := mustMake(t, n)
	end, same := fifo.Run(c, pre.Begin(c))
	f, err := csr.Flow(c, end.Res, len(n.Arcs))
	if !slices.Equal(a.Flow, f) || w != same || err != api.OK {
		t.Fatalf("%s: Solve is %s, %+v, the run ends with %s, %d, and %+v", brief(n), brief(a), w, brief(f), err, same)
	}
	most, err := fifo.Most(n)
	if err != api.OK || w.Pushes > most.Pushes || w.Lifts > most.Lifts {
		t.Fatalf("%s: Solve takes %+v, but Most is %+v, %d", brief(n), w, most, err)
	}
}

// P8.2, P8.3: the answers for all small networks are flows with tight cuts, as great as the least of all cuts.
func TestAnswers(t *testing.T) {
	check := func(n api.Net) {
		if value := checkAnswer(t, n); value != leastCut(n) {
			t.Fatalf("%v: the value is %d, the least cut %d", n, value, leastCut(n))
		}
	}
	smallNets(check)
	widerNets(check)
	check(example())
	check(tangle())
	seed := uint64(4)
	for round := range 400 {
		verts := 2 + round%8
		check(mixed(&seed, verts, pick(&seed, 5*verts), int64(1)<<(round%56)))
	}
}

// P8.3: networks as large as there may be.
func TestLargeAnswers(t *testing.T) {
	last := 1<<12 - 1
	narrow, closed := line(1<<12), line(1<<12)
	for v := range last {
		narrow.Arcs = append(narrow.Arcs, arc(v, v+1, int64(1)<<49-int64(v)))
		closed.Arcs = append(closed.Arcs, arc(v, v+1, int64(last-1-v)))
	}
	if value := checkAnswer(t, narrow); value != int64(1)<<49-int64(last-1) {
		t.Errorf("what comes through is %d", value)
	}
	if value := checkAnswer(t, closed); value != 0 {
		t.Errorf("what comes through is %d", value)
	}
	seed := uint64(5)
	if value := checkAnswer(t, mixed(&seed, 1<<12, 1<<14, 1<<30)); value <= 0 {
		t.Errorf("the value of a mixed network is %d", value)
	}
	if value := checkAnswer(t, mixed(&seed, 100, 1<<14, 1<<30)); value <= 0 {
		t.Errorf("the value of a dense network is %d", value)
	}
	full := line(2, slices.Repeat([]api.Arc{arc(0, 1, 1<<48)}, 1<<14)...)
	if value := checkAnswer(t, full); value != 1<<62 {
		t.Errorf("the value of the greatest capacities is %d", value)
	}
}

// reordered calls f with the arcs in all orders.
func reordered(arcs []api.Arc, f func(arcs []api.Arc)) {
	var order func(done int)
	order = func(done int) {
		if done == len(arcs) {
			f(slices.Clone(arcs))
			return
		}
		for i := done; i < len(arcs); i++ {
			arcs[done], arcs[i] = arcs[i], arcs[done]
			order(done + 1)
			arcs[done], arcs[i] = arcs[i], arcs[done]
		}
	}
	order(0)
}

// P8.3: the value does not depend on the order of the arcs.
func TestOrderOfArcs(t *testing.T) {
	seed := uint64(6)
	for _, n := range []api.Net{example(), line(4, arc(0, 1, 4), arc(1, 2, 3), arc(1, 3, 2), arc(2, 3, 1)), mixed(&seed, 4, 6, 3), mixed(&seed, 5, 6, 9)} {
		want := leastCut(n)
		reordered(slices.Clone(n.Arcs), func(arcs []api.Arc) {
			n.Arcs = arcs
			if value := checkAnswer(t, n); value != want {
				t.Fatalf("%v: the value is %d, in another order %d", n, value, want)
			}
		})
	}
	for range 60 {
		n := mixed(&seed, 20, 80, 50)
		want := checkAnswer(t, n)
		slices.Reverse(n.Arcs)
		if value := checkAnswer(t, n); value != want {
			t.Fatalf("%v: the value is %d, in the other order %d", n, value, want)
		}
		slices.SortFunc(n.Arcs, func(a, b api.Arc) int { return int(b.Cap - a.Cap) })
		if value := checkAnswer(t, n); value != want {
			t.Fatalf("%v: the value is %d, in another order %d", n, value, want)
		}
	}
}

// P8.3: if a capacity grows by d, the value grows by at most d, and does not fall; there are networks where it grows by all of it, by some of it, and not at all.
func TestGrowth(t *testing.T) {
	all, some, none := 0, 0, 0
	check := func(n api.Net) {
		before := checkAnswer(t, n)
		for i := range n.Arcs {
			for _, d := range []int64{1, 2, 7, 1 << 40} {
				wider := n
				wider.Arcs = slices.Clone(n.Arcs)
				wider.Arcs[i].Cap += d
				switch grown := checkAnswer(t, wider) - before; {
				case grown < 0 || grown > d:
					t.Fatalf("%v: with %d more for arc %d the value grows by %d", n, d, i, grown)
				case grown == 0:
					none++
				case grown == d:
					all++
				default:
					some++
				}
			}
		}
	}
	widerNets(check)
	check(example())
	check(tangle())
	seed := uint64(9)
	for round := range 100 {
		check(mixed(&seed, 2+round%7, 3*(2+round%7), 12))
	}
	if all == 0 || some == 0 || none == 0 {
		t.Errorf("it grows by all %d times, by some %d times, not at all %d times", all, some, none)
	}
}

// P8.3: from whichever valid state a run begins, its end has a maximum flow, as no other end is worth more.
func TestEndsAreWorthTheSame(t *testing.T) {
	ends := 0
	check := func(n api.Net) {
		c := mustMake(t, n)
		want := leastCut(n)
		validStates(t, n, c, func(p api.Pre) {
			end, _ := fifo.Run(c, p)
			f, err := csr.Flow(c, end.Res, len(n.Arcs))
			if value, err2 := flow.Value(n, f); err != api.OK || err2 != api.OK || value != want || end.Ex[n.T] != want {
				t.Fatalf("%v: the end %v of a run from %v has the flow %v, %d, with the value %d, %d, want %d", n, end, p, f, err, value, err2, want)
			}
			ends++
		})
	}
	smallNets(check)
	widerNets(check)
	if ends < 1000 {
		t.Errorf("only %d states have been tried", ends)
	}
}
