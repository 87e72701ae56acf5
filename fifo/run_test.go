package fifo_test

import (
	"slices"
	"testing"

	"acequia/api"
	"acequia/csr"
	"acequia/fifo"
	"acequia/flow"
	"acequia/pre"
)

// wantRun is the chapter's definition of a run, written anew, with each push and lift made by layer 7.
func wantRun(t *testing.T, c api.Csr, p api.Pre) (api.Pre, api.Work) {
	t.Helper()
	p = pre.Copy(p)
	var w api.Work
	queue := pre.Active(c, p)
	for len(queue) > 0 {
		u := queue[0]
		queue = queue[1:]
		for p.Ex[u] > 0 {
			a := firstPush(c, p, u)
			if a < 0 {
				p = mustLift(t, c, p, u)
				w.Lifts++
				continue
			}
			q := mustPush(t, c, p, a)
			w.Pushes++
			v := c.Head[a]
			if !slices.Contains(pre.Active(c, p), v) && slices.Contains(pre.Active(c, q), v) && !slices.Contains(queue, v) {
				queue = append(queue, v)
			}
			p = q
		}
	}
	return p, w
}

// firstPush is the first residual arc of u along which a push is possible; -1 if there is none.
func firstPush(c api.Csr, p api.Pre, u int) int {
	pushes, _ := pre.May(c, p)
	for _, a := range pushes {
		if tail, _ := csr.Tail(c, a); tail == u {
			return a
		}
	}
	return -1
}

func mustPush(t *testing.T, c api.Csr, p api.Pre, a int) api.Pre {
	t.Helper()
	q, _, err := pre.Push(c, p, a)
	if err != api.OK {
		t.Fatalf("Push(%v, %v, %d) has the error %d", c, p, a, err)
	}
	return q
}

func mustLift(t *testing.T, c api.Csr, p api.Pre, u int) api.Pre {
	t.Helper()
	q, err := pre.Lift(c, p, u)
	if err != api.OK {
		t.Fatalf("Lift(%v, %v, %d) has the error %d", c, p, u, err)
	}
	return q
}

// checkRun compares Run to what it should be, and returns the state at the end.
func checkRun(t *testing.T, c api.Csr, p, want api.Pre, wantWork api.Work) api.Pre {
	t.Helper()
	end, w := fifo.Run(c, p)
	if !equal(end, want) || w != wantWork {
		t.Fatalf("Run(%s, %s) is %s, %+v, want %s, %+v", brief(c), brief(p), brief(end), w, brief(want), wantWork)
	}
	return end
}

// state is what layers 2 and 3 say of the numbers f, with the heights h.
func state(t *testing.T, n api.Net, c api.Csr, f []int64, h []int) api.Pre {
	t.Helper()
	res, err := csr.Res(c, f)
	if err != api.OK {
		t.Fatalf("Res of %v has the error %d", f, err)
	}
	excess, err := flow.Excess(n, f)
	if err != api.OK {
		t.Fatalf("Excess of %v has the error %d", f, err)
	}
	return api.Pre{Res: res, Ex: excess, H: slices.Clone(h)}
}

// P8.1: runs counted by hand, from the first state, from states on the way, and from the end.
func TestRun(t *testing.T) {
	toEachOther := line(4, arc(0, 1, 4), arc(1, 2, 3), arc(1, 3, 2), arc(2, 3, 1))
	waiting := line(5, arc(0, 1, 2), arc(0, 2, 1), arc(1, 3, 1), arc(2, 3, 1), arc(3, 4, 2), arc(1, 4, 1))
	for _, x := range []struct {
		name          string
		n             api.Net
		from, to      []int64
		low, high     []int
		pushes, lifts int
	}{
		{"chapter 1 from the first state", example(), []int64{5, 4, 0, 0, 0}, []int64{5, 4, 3, 6, 2}, []int{4, 0, 0, 0}, []int{4, 1, 1, 0}, 3, 2},
		{"chapter 1 with 1 lifted", example(), []int64{5, 4, 0, 0, 0}, []int64{5, 4, 3, 6, 2}, []int{4, 1, 0, 0}, []int{4, 1, 1, 0}, 3, 1},
		{"chapter 1 with 3 pushed", example(), []int64{5, 4, 3, 0, 0}, []int64{5, 4, 3, 6, 2}, []int{4, 1, 0, 0}, []int{4, 1, 1, 0}, 2, 1},
		// 1 is at 1, and its arc to 3 is full, so that it is lifted to 2, from where it pushes to 2.
		{"chapter 1 with 3 full and 2 at 1", example(), []int64{5, 4, 3, 0, 0}, []int64{5, 4, 3, 6, 2}, []int{4, 1, 1, 0}, []int{4, 2, 1, 0}, 2, 1},
		{"chapter 1 at the end", example(), []int64{5, 4, 3, 6, 2}, []int64{5, 4, 3, 6, 2}, []int{4, 1, 1, 0}, []int{4, 1, 1, 0}, 0, 0},
		// S is at 3, and 1 at 2, so that the arc from S need not be full.
		{"S has more to give", line(3, arc(0, 1, 5), arc(1, 2, 1)), []int64{1, 1}, []int64{1, 1}, []int{3, 2, 0}, []int{3, 2, 0}, 0, 0},
		// 1 is at 5 already, above 0 at 4: all goes back without a lift.
		{"one above S", line(4, arc(0, 1, 4), arc(1, 2, 3), arc(2, 3, 3)), []int64{4, 3, 3}, []int64{3, 3, 3}, []int{4, 5, 1, 0}, []int{4, 5, 1, 0}, 1, 0},
		{"to each other", toEachOther, []int64{4, 0, 0, 0}, []int64{3, 1, 2, 1}, []int{4, 0, 0, 0}, []int{4, 5, 4, 0}, 8, 6},
		// 1 has pushed 3 to 2, and is active still: it pushes 1 to 3; what 2 does is as before.
		{"to each other, with 3 pushed", toEachOther, []int64{4, 3, 0, 0}, []int64{3, 1, 2, 1}, []int{4, 1, 0, 0}, []int{4, 5, 4, 0}, 7, 5},
		// 2 is served first, as 1 is not active: it is lifted to 2, pushes 2 back; 1 pushes 1 to 3, and so on.
		{"to each other, with 1 at rest", toEachOther, []int64{4, 3, 1, 1}, []int64{3, 1, 2, 1}, []int{4, 1, 1, 0}, []int{4, 5, 4, 0}, 5, 4},
		// 3 is active with 1, and served behind 1, which pushes 1 to it, and 1 to 4: it pushes 2 once.
		{"active at first, and more to it", waiting, []int64{2, 1, 0, 1, 0, 0}, []int64{2, 1, 1, 1, 2, 1}, []int{5, 1, 1, 0, 0}, []int{5, 1, 1, 1, 0}, 3, 1},
	} {
		c := mustMake(t, x.n)
		p, want := state(t, x.n, c, x.from, x.low), state(t, x.n, c, x.to, x.high)
		end, w := fifo.Run(c, p)
		if !pre.Right(c, p) || !equal(end, want) || w != (api.Work{Pushes: x.pushes, Lifts: x.lifts}) {
			t.Errorf("%s: Run is %v, %+v, want %v, %d pushes, %d lifts", x.name, end, w, want, x.pushes, x.lifts)
		}
	}
}

// smallNets calls f with networks of three vertices with up to three arcs, self-loops, parallel arcs, arcs against each other and arcs of no capacity among them.
func smallNets(f func(n api.Net)) {
	n := api.Net{N: 3, S: 1, T: 0}
	f(n)
	for first := range 27 {
		a := arc(first/9, first/3%3, int64(first%3))
		n.Arcs = []api.Arc{a}
		f(n)
		for second := range 27 {
			b := arc(second/9, second/3%3, int64(second%3))
			n.Arcs = []api.Arc{a, b}
			f(n)
			// All capacities of the third arc would take too long.
			for third := range 9 {
				n.Arcs = []api.Arc{a, b, arc(third/3, third%3, 2)}
				f(n)
			}
		}
	}
}

// widerNets calls f with networks of four and five vertices, in which vertices other than S and T push to each other.
func widerNets(f func(n api.Net)) {
	f(line(4, arc(0, 1, 2), arc(0, 2, 1), arc(1, 3, 1), arc(2, 3, 1), arc(1, 2, 1)))
	f(line(4, arc(0, 1, 2), arc(1, 2, 2), arc(2, 1, 1), arc(2, 3, 1)))
	f(api.Net{N: 4, S: 3, T: 1, Arcs: []api.Arc{arc(3, 2, 1), arc(2, 0, 1), arc(0, 1, 1), arc(2, 2, 1), arc(2, 0, 2), arc(0, 3, 1)}})
	f(api.Net{N: 4, S: 2, T: 0, Arcs: []api.Arc{arc(2, 1, 2), arc(1, 3, 2), arc(3, 1, 1), arc(0, 1, 1), arc(3, 0, 0)}})
	f(line(5, arc(0, 1, 2), arc(1, 2, 2), arc(2, 3, 1), arc(3, 4, 1)))
}

// allLists calls f with all lists of so many numbers between these.
func allLists[E int | int64](length int, least, most E, f func(list []E)) {
	list := slices.Repeat([]E{least}, length)
	for {
		f(list)
		at := 0
		for at < length && list[at] == most {
			list[at] = least
			at++
		}
		if at == length {
			return
		}
		list[at]++
	}
}

// validStates calls f with all valid states.
func validStates(t *testing.T, n api.Net, c api.Csr, f func(p api.Pre)) {
	t.Helper()
	var most int64
	for _, a := range n.Arcs {
		most = max(most, a.Cap)
	}
	allLists(len(n.Arcs), 0, most, func(numbers []int64) {
		if !flow.Pre(n, numbers) {
			return
		}
		p := state(t, n, c, numbers, make([]int, n.N))
		p.H[n.S] = n.N
		allLists(n.N-2, 0, 2*n.N-1, func(free []int) {
			next := 0
			for v := range p.H {
				if v != n.S && v != n.T {
					p.H[v] = free[next]
					next++
				}
			}
			if pre.Right(c, p) {
				f(p)
			}
		})
	})
}

// seen counts what runs have been tried, so that no test passes for want of any.
type seen struct{ states, rests, pushes, lifts int }

// note counts a run from p.
func (s *seen) note(c api.Csr, p api.Pre, w api.Work) {
	s.states++
	if len(pre.Active(c, p)) == 0 {
		s.rests++
	}
	s.pushes += w.Pushes
	s.lifts += w.Lifts
}

func (s *seen) enough(t *testing.T) {
	t.Helper()
	if s.states < 1000 || s.rests < 100 || s.pushes < 1000 || s.lifts < 1000 {
		t.Errorf("not enough has been tried: %+v", *s)
	}
}

// P8.1: a run from each valid state of small networks is what it is by definition; its end is a valid state without active vertices.
func TestRunByDefinition(t *testing.T) {
	var s seen
	check := func(n api.Net) {
		c := mustMake(t, n)
		validStates(t, n, c, func(p api.Pre) {
			want, w := wantRun(t, c, p)
			end := checkRun(t, c, p, want, w)
			if !pre.Right(c, end) || len(pre.Active(c, end)) > 0 {
				t.Fatalf("%v: a run from %v ends at %v", n, p, end)
			}
			s.note(c, p, w)
		})
	}
	smallNets(check)
	widerNets(check)
	s.enough(t)
}

// P8.1: runs of greater networks, from the first state, and from states on the way of machines that choose each move by a rule of their own.
func TestRunOnTheWay(t *testing.T) {
	var s seen
	seed := uint64(8)
	for round := range 150 {
		n := mixed(&seed, 3+round%9, 4*(3+round%9), int64(1+round%7))
		c := mustMake(t, n)
		for p, more := pre.Begin(c), true; more; p, more = moved(t, c, p, &seed) {
			want, w := wantRun(t, c, p)
			checkRun(t, c, p, want, w)
			s.note(c, p, w)
		}
	}
	s.enough(t)
}

// moved is p with one push or lift, and true; false if none is possible.
func moved(t *testing.T, c api.Csr, p api.Pre, seed *uint64) (api.Pre, bool) {
	t.Helper()
	pushes, lifts := pre.May(c, p)
	if len(pushes)+len(lifts) == 0 {
		return p, false
	}
	at := pick(seed, len(pushes)+len(lifts))
	if at < len(pushes) {
		return mustPush(t, c, p, pushes[at]), true
	}
	return mustLift(t, c, p, lifts[at-len(pushes)]), true
}

// P8.1: the end of a run is where a run from it ends, without a push or a lift.
func TestRunFromTheEnd(t *testing.T) {
	check := func(n api.Net) {
		c := mustMake(t, n)
		end, _ := fifo.Run(c, pre.Begin(c))
		checkRun(t, c, end, end, api.Work{})
	}
	smallNets(check)
	widerNets(check)
	check(example())
	check(tangle())
}
