package fifo_test

import (
	"fmt"
	"slices"
	"testing"

	"acequia/api"
	"acequia/csr"
	"acequia/fifo"
	"acequia/net"
)

// arc is short for the literals below.
func arc(from, to int, cap int64) api.Arc { return api.Arc{From: from, To: to, Cap: cap} }

// line is a network whose first vertex is the source, and whose last one is the sink.
func line(n int, arcs ...api.Arc) api.Net { return api.Net{N: n, S: 0, T: n - 1, Arcs: arcs} }

// example is the network of chapter 1.
func example() api.Net {
	return line(4, arc(0, 1, 5), arc(0, 2, 4), arc(1, 3, 3), arc(2, 3, 6), arc(1, 2, 2))
}

// tangle has self-loops, parallel arcs, arcs against each other, an arc of no capacity, one out of T, one into S, and a vertex (3) without arcs.
func tangle() api.Net {
	return api.Net{N: 5, S: 4, T: 1, Arcs: []api.Arc{
		arc(4, 0, 3), arc(2, 2, 8), arc(0, 4, 2), arc(4, 0, 1), arc(0, 1, 4), arc(1, 2, 0), arc(2, 1, 5), arc(0, 0, 1), arc(4, 2, 2),
	}}
}

// pick is a number below bound that follows from the numbers before it.
func pick(seed *uint64, bound int) int {
	*seed = *seed*6364136223846793005 + 1442695040888963407
	return int(*seed >> 33 % uint64(bound))
}

// mixed is a network of so many vertices and arcs, with ends of all kinds.
func mixed(seed *uint64, verts, arcs int, most int64) api.Net {
	n := api.Net{N: verts, S: pick(seed, verts)}
	n.T = (n.S + 1 + pick(seed, verts-1)) % verts
	for range arcs {
		n.Arcs = append(n.Arcs, arc(pick(seed, verts), pick(seed, verts), int64(pick(seed, int(most)+1))))
	}
	return n
}

// mustMake returns the residual network of a valid network.
func mustMake(t *testing.T, n api.Net) api.Csr {
	t.Helper()
	c, err := csr.Make(n)
	if err != api.OK {
		t.Fatalf("Make(%v) has the error %d", n, err)
	}
	return c
}

// mustSolve returns what Solve returns for a valid network.
func mustSolve(t *testing.T, n api.Net) (api.Answer, api.Work) {
	t.Helper()
	a, w, err := fifo.Solve(n)
	if err != api.OK {
		t.Fatalf("Solve(%s) has the error %d", brief(n), err)
	}
	return a, w
}

// equal tells whether two states are the same.
func equal(p, q api.Pre) bool {
	return slices.Equal(p.Res, q.Res) && slices.Equal(p.Ex, q.Ex) && slices.Equal(p.H, q.H)
}

// alike tells whether two answers are the same.
func alike(a, b api.Answer) bool {
	return slices.Equal(a.Flow, b.Flow) && slices.Equal(a.Side, b.Side) && a.Value == b.Value
}

// brief is the beginning of what x looks like, as the largest networks would fill pages.
func brief(x any) string { return fmt.Sprintf("%.300s", fmt.Sprint(x)) }

// side is written as + for each vertex that is in it, and - for each that is not.
func side(text string) []bool {
	var s []bool
	for _, c := range text {
		s = append(s, c == '+')
	}
	return s
}

// counted is a network with its answer and the pushes and lifts of its run, counted by hand.
type counted struct {
	name          string
	n             api.Net
	flow          []int64
	side          string
	value         int64
	pushes, lifts int
}

// check compares what Solve returns to what was counted.
func (x counted) check(t *testing.T) {
	t.Helper()
	want := api.Answer{Flow: x.flow, Side: side(x.side), Value: x.value}
	a, w := mustSolve(t, x.n)
	if !alike(a, want) || w != (api.Work{Pushes: x.pushes, Lifts: x.lifts}) {
		t.Errorf("%s: Solve is %v, %+v, want %v with %d pushes, %d lifts", x.name, a, w, want, x.pushes, x.lifts)
	}
}

// P8.2: the chapter's examples, and those of the whole that have an answer.
func TestExamples(t *testing.T) {
	for _, x := range []counted{
		// 1 is lifted to 1, and pushes 3 to 3 and 2 to 2; 2 is lifted to 1, and pushes 6.
		{"chapter 1", example(), []int64{5, 4, 3, 6, 2}, "+++-", 9, 3, 2},
		{"two vertices", line(2, arc(0, 1, 7), arc(1, 0, 3)), []int64{7, 0}, "+-", 7, 0, 0},
		{"one arc", line(2, arc(0, 1, 7)), []int64{7}, "+-", 7, 0, 0},
		// 1 is lifted to 1, and pushes 1 to 2, which has 2 then; 2 is lifted to 1, pushes 1 to 3, is lifted to 2, as 1 is at 1, and pushes 1 back; 1 pushes it to 3.
		{"two paths", line(4, arc(0, 1, 1), arc(0, 2, 1), arc(1, 2, 1), arc(1, 3, 1), arc(2, 3, 1)), []int64{1, 1, 0, 1, 1}, "+++-", 2, 4, 3},
		// 1 is lifted to 1, and pushes 4 to 2, is lifted to 5, and pushes 5 back; 2 is lifted to 1, and pushes 4.
		{"a bottleneck", line(4, arc(0, 1, 9), arc(1, 2, 4), arc(2, 3, 9)), []int64{4, 4, 4}, "++--", 4, 3, 3},
		{"no path to the sink", line(3, arc(0, 1, 5), arc(2, 1, 5)), []int64{0, 0}, "++-", 0, 1, 1},
		{"a self-loop, parallel arcs, one against them", line(2, arc(0, 0, 8), arc(0, 1, 3), arc(0, 1, 4), arc(1, 0, 6)), []int64{0, 3, 4, 0}, "+-", 7, 0, 0},
	} {
		x.check(t)
	}
}

// P8.2: networks with arcs of all kinds.
func TestSolve(t *testing.T) {
	for _, x := range []counted{
		{"two vertices, no arcs", line(2), nil, "+-", 0, 0, 0},
		{"no arcs", api.Net{N: 4, S: 2, T: 1}, nil, "+-++", 0, 0, 0},
		{"no capacity", line(3, arc(0, 1, 0), arc(1, 2, 0), arc(0, 2, 0)), []int64{0, 0, 0}, "++-", 0, 0, 0},
		{"self-loops alone", line(3, arc(0, 0, 4), arc(1, 1, 4), arc(2, 2, 4)), []int64{0, 0, 0}, "++-", 0, 0, 0},
		{"from S to T alone", api.Net{N: 3, S: 2, T: 0, Arcs: []api.Arc{arc(2, 0, 3), arc(2, 0, 5)}}, []int64{3, 5}, "-++", 8, 0, 0},
		{"from T to S alone", line(3, arc(2, 0, 3), arc(2, 0, 5)), []int64{0, 0}, "++-", 0, 0, 0},
		{"into S and out of T alone", line(3, arc(1, 0, 3), arc(2, 1, 5)), []int64{0, 0}, "++-", 0, 0, 0},
		// 1 is lifted to 1, as 2 is at 0.
		{"all goes on", line(3, arc(0, 1, 2), arc(1, 2, 5)), []int64{2, 2}, "+--", 2, 1, 1},
		{"as much as can", line(3, arc(0, 1, 2), arc(1, 2, 2)), []int64{2, 2}, "++-", 2, 1, 1},
		// 1 is lifted to 1, pushes 2, is lifted to 4 at once, and pushes 3 back.
		{"some comes back", line(3, arc(0, 1, 5), arc(1, 2, 2)), []int64{2, 2}, "++-", 2, 2, 2},
		{"all comes back", line(3, arc(0, 1, 9)), []int64{0}, "++-", 0, 1, 1},
		// 1 pushes 2 and 3 along both ways, then 1 back, along the first way that it came.
		{"parallel arcs", line(3, arc(0, 1, 4), arc(1, 2, 2), arc(0, 1, 2), arc(1, 2, 3)), []int64{3, 2, 2, 3}, "++-", 5, 3, 2},
		// What comes back goes along the first arc to S: the backward one, or another one.
		{"an arc into S behind", line(3, arc(0, 1, 2), arc(1, 0, 4), arc(1, 2, 1), arc(2, 1, 5)), []int64{1, 0, 1, 0}, "++-", 1, 2, 2},
		{"an arc into S ahead", line(3, arc(1, 0, 4), arc(0, 1, 2), arc(1, 2, 1), arc(2, 1, 5)), []int64{1, 2, 1, 0}, "++-", 1, 2, 2},
		// 2 is not reached by anything, but reaches T; 3 is not reached, and reaches nothing.
		{"vertices beside", api.Net{N: 5, S: 0, T: 4, Arcs: []api.Arc{arc(0, 1, 2), arc(1, 4, 1), arc(2, 4, 3)}}, []int64{1, 1, 0}, "++-+-", 1, 2, 2},
		// 0 is lifted to 1, and pushes 4; 2 is lifted to 1, and pushes 2.
		{"of all kinds", tangle(), []int64{3, 0, 0, 1, 4, 0, 2, 0, 2}, "+--++", 6, 2, 2},
		{"the greatest capacity", line(2, arc(0, 1, 1<<62)), []int64{1 << 62}, "+-", 1 << 62, 0, 0},
		{"the greatest capacity that comes back", line(3, arc(0, 1, 1<<62)), []int64{0}, "++-", 0, 1, 1},
		{"the greatest capacities, one behind the other", line(3, arc(0, 1, 1<<61), arc(1, 2, 1<<61)), []int64{1 << 61, 1 << 61}, "++-", 1 << 61, 1, 1},
		{"the greatest capacities beside each other", line(3, arc(0, 1, 1<<61-1), arc(0, 1, 1<<61), arc(1, 2, 1)), []int64{0, 1, 1}, "++-", 1, 3, 2},
	} {
		x.check(t)
	}
}

// P8.1, P8.2: runs in which it matters which vertex is served next, which residual arc is the first one, and how far a vertex is lifted.
func TestOrder(t *testing.T) {
	for _, x := range []counted{
		// 1 first: lifted to 1, it pushes 1 to 3; 2 is lifted to 2, and pushes 1 to 1, which pushes once more. With 2 first there would be two pushes.
		{"active at first in increasing order", line(4, arc(0, 2, 1), arc(0, 1, 1), arc(2, 1, 1), arc(1, 3, 2)), []int64{1, 1, 1, 2}, "+++-", 2, 3, 2},
		// 1 pushes 1 to 3, but 2 is next, and pushes to 3 as well; 3 pushes once. With 3 next it would push twice.
		{"behind those that wait", line(5, arc(0, 1, 1), arc(0, 2, 1), arc(1, 3, 1), arc(2, 3, 1), arc(3, 4, 2)), []int64{1, 1, 1, 1, 2}, "++++-", 2, 3, 3},
		// 1 pushes 1 to 2, which is in the queue with 1, and is served once, with 2.
		{"more while it waits", line(4, arc(0, 1, 1), arc(0, 2, 1), arc(1, 2, 1), arc(2, 3, 2)), []int64{1, 1, 1, 2}, "+++-", 2, 2, 2},
		// 1 pushes to 2 first, from where it comes back, and then to 3.
		{"along the first one", line(4, arc(0, 1, 1), arc(1, 2, 1), arc(1, 3, 1)), []int64{1, 0, 1}, "+++-", 1, 3, 2},
		{"along the other one, which is the first", line(4, arc(0, 1, 1), arc(1, 3, 1), arc(1, 2, 1)), []int64{1, 1, 0}, "+++-", 1, 1, 1},
		// 1 is lifted to 1, pushes 3 to 2, 1 to 3; 2 is lifted to 1, pushes 1 to 3, is lifted to 2, pushes 2 back;
		// 1 pushes 1 to 3, is lifted to 3, pushes 1 to 2; 2 is lifted to 4, pushes 1 back; 1 is lifted to 5, pushes 1 back to 0.
		{"to each other", line(4, arc(0, 1, 4), arc(1, 2, 3), arc(1, 3, 2), arc(2, 3, 1)), []int64{3, 1, 2, 1}, "+++-", 3, 8, 6},
		// 1 is served till it has nothing: lifted to 1, it pushes 1 to 4, is lifted to 6, pushes 2 back. If it waited for 2 with the rest, 2 would push 3 to it as well.
		{"served to its end", line(5, arc(0, 1, 3), arc(0, 2, 3), arc(1, 4, 1), arc(2, 1, 3)), []int64{1, 0, 1, 0}, "++++-", 1, 3, 3},
	} {
		x.check(t)
	}
}

// P8.2: of several tight cuts, the side is the greatest one.
func TestSide(t *testing.T) {
	for _, x := range []counted{
		{"three bottlenecks", line(4, arc(0, 1, 2), arc(1, 2, 2), arc(2, 3, 2)), []int64{2, 2, 2}, "+++-", 2, 2, 2},
		{"two bottlenecks, the first ones", line(4, arc(0, 1, 2), arc(1, 2, 2), arc(2, 3, 3)), []int64{2, 2, 2}, "++--", 2, 2, 2},
		{"a bottleneck at the source", line(4, arc(0, 1, 2), arc(1, 2, 3), arc(2, 3, 3)), []int64{2, 2, 2}, "+---", 2, 2, 2},
		{"a vertex apart", line(3, arc(0, 2, 2)), []int64{2}, "++-", 2, 0, 0},
		{"a vertex that reaches T", line(3, arc(0, 2, 2), arc(1, 2, 2)), []int64{2, 0}, "+--", 2, 0, 0},
		{"a vertex that T reaches", line(3, arc(0, 2, 2), arc(2, 1, 2)), []int64{2, 0}, "++-", 2, 0, 0},
	} {
		x.check(t)
	}
}

// wrongNets are networks that are not valid, for one reason, or several of which the first one counts.
func wrongNets() map[api.Errno][]api.Net {
	return map[api.Errno][]api.Net{
		api.ErrVerts: {
			{}, {N: 1, S: 0, T: 0}, {N: -4, S: 0, T: 1}, {N: 1<<12 + 1, S: 0, T: 1}, {N: 1, S: 0, T: 1, Arcs: []api.Arc{arc(0, 5, -1)}},
		},
		api.ErrArcs: {
			{N: 2, S: 0, T: 1, Arcs: make([]api.Arc, 1<<14+1)}, {N: 2, S: 0, T: 0, Arcs: slices.Repeat([]api.Arc{arc(9, 9, -9)}, 1<<14+1)},
		},
		api.ErrEnds: {
			{N: 2, S: 1, T: 1}, {N: 2, S: -1, T: 1}, {N: 2, S: 0, T: -1}, {N: 2, S: 2, T: 1}, {N: 2, S: 0, T: 2}, {N: 3, S: 3, T: 0, Arcs: []api.Arc{arc(0, 3, -1)}},
		},
		api.ErrArc: {
			line(2, arc(0, 2, 1)), line(2, arc(2, 1, 1)), line(2, arc(-1, 1, 1)), line(2, arc(0, -1, 1)), line(2, arc(0, 1, -1), arc(2, 2, 0)),
		},
		api.ErrCap: {
			line(2, arc(0, 1, -1)), line(2, arc(0, 1, 1<<62), arc(0, 1, 1<<62), arc(1, 1, -1)),
		},
		api.ErrSum: {
			line(2, arc(0, 1, 1<<62), arc(0, 1, 1)), line(2, arc(0, 1, 1<<62+1)), line(3, arc(0, 1, 1<<62), arc(1, 2, 1<<62), arc(0, 2, 1<<62), arc(1, 1, 1<<62)),
			line(2, arc(1, 1, 1<<62), arc(0, 1, 1)),
		},
	}
}

// P8.2, R2: Solve and Most return the error of net.Check for a network that is not valid, and nothing beside it.
func TestErrors(t *testing.T) {
	for want, list := range wrongNets() {
		for _, n := range list {
			if err := net.Check(n); err != want {
				t.Fatalf("Check(%s) is %d, want %d", brief(n), err, want)
			}
			if a, w, err := fifo.Solve(n); a.Flow != nil || a.Side != nil || a.Value != 0 || w != (api.Work{}) || err != want {
				t.Errorf("Solve(%s) is %s, %v, %d, want the error %d", brief(n), brief(a), w, err, want)
			}
			if w, err := fifo.Most(n); w != (api.Work{}) || err != want {
				t.Errorf("Most(%s) is %v, %d, want the error %d", brief(n), w, err, want)
			}
		}
	}
}

// P8.2: Most counts residual arcs, two for each arc that is not a self-loop, whatever the capacities are.
func TestMost(t *testing.T) {
	full := line(1 << 12)
	for i := range 1 << 14 {
		full.Arcs = append(full.Arcs, arc(i%4096, (i+1)%4096, 1<<48))
	}
	for _, x := range []struct {
		name          string
		n             api.Net
		pushes, lifts int
	}{
		{"two vertices, no arcs", line(2), 2, 0},
		{"two vertices, one arc", line(2, arc(0, 1, 7)), 2*2 + 2, 0},
		{"an arc of no capacity", line(2, arc(0, 1, 0)), 2*2 + 2, 0},
		{"self-loops", line(2, arc(0, 0, 7), arc(1, 1, 7)), 2, 0},
		{"three vertices, no arcs", api.Net{N: 3, S: 1, T: 0}, 3 * (2*5 + 1), 5},
		{"three vertices, parallel arcs, one against them", line(3, arc(0, 1, 1), arc(0, 1, 1), arc(1, 0, 1)), 6*3 + 3*(2*5+1), 5},
		{"chapter 1", example(), 10*4 + 4*(2*14+1), 14},
		{"of all kinds", tangle(), 14*5 + 5*(2*27+1), 27},
		{"as many vertices and arcs as there may be", full, 32768*4096 + 4096*(2*33533954+1), 33533954},
	} {
		if w, err := fifo.Most(x.n); w != (api.Work{Pushes: x.pushes, Lifts: x.lifts}) || err != api.OK {
			t.Errorf("%s: Most is %+v, %d, want %d pushes, %d lifts", x.name, w, err, x.pushes, x.lifts)
		}
	}
}
