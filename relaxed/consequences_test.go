package relaxed_test

import (
	"testing"

	"acequia/api"
	"acequia/csr"
	"acequia/label"
	"acequia/pre"
	"acequia/relaxed"
)

// legalMoves are all moves that are allowed in p, with one Low each.
func legalMoves(c api.Csr, p api.Pre) []api.Event {
	var l []api.Event
	for u := range c.N {
		if u == c.S || u == c.T {
			continue
		}
		for a := c.First[u]; a < c.First[u+1]; a++ {
			for d := int64(1); d <= min(p.Ex[u], p.Res[a]); d++ {
				l = append(l, push(u, a, d, p.H[u], p.H[u]-1))
			}
		}
		for h := p.H[u] + 1; h <= 2*c.N; h++ {
			l = append(l, lift(u, h))
		}
	}
	return l
}

// mustMove is what a move that is allowed makes of p.
func mustMove(t *testing.T, c api.Csr, p api.Pre, e api.Event) api.Pre {
	t.Helper()
	q, err := relaxed.Move(c, p, e)
	if err != api.OK {
		t.Fatalf("%v: %v: Move of %+v has the error %d", c, p, e, err)
	}
	return q
}

// P9.4: a sound state stays sound, heights never fall, and the sum of all excesses is 0, whatever is moved in whichever sound state.
func TestSoundStatesStaySound(t *testing.T) {
	pushes, lifts := 0, 0
	check := func(n api.Net) {
		c := mustMake(t, n)
		soundStates(t, n, c, func(p api.Pre) {
			for _, e := range legalMoves(c, p) {
				q := mustMove(t, c, p, e)
				if !relaxed.Right(c, q) || !wantRight(n, c, q) {
					t.Fatalf("%v: %v is sound, but after %+v %v is not", n, p, e, q)
				}
				var sum int64
				for v := range c.N {
					sum += q.Ex[v]
					if q.H[v] < p.H[v] {
						t.Fatalf("%v: %v: %+v makes %d fall to %d", n, p, e, v, q.H[v])
					}
				}
				if sum != 0 {
					t.Fatalf("%v: %v: after %+v the sum is %d", n, p, e, sum)
				}
				if e.What == api.EvPush {
					pushes++
				} else {
					lifts++
				}
			}
		})
	}
	smallNets(check)
	fewNets(check)
	widerNets(check)
	if pushes < 1000 || lifts < 1000 {
		t.Errorf("only %d pushes and %d lifts have been tried", pushes, lifts)
	}
}

// P9.4: two moves of different vertices that are allowed in either order have the same effect in both.
func TestMovesInEitherOrder(t *testing.T) {
	pushes, lifts, both := 0, 0, 0
	check := func(t *testing.T, c api.Csr, p api.Pre, e, f api.Event) {
		first, k, err := relaxed.Run(c, p, []api.Event{e, f})
		if k != 2 || err != api.OK {
			return
		}
		other, k, err := relaxed.Run(c, p, []api.Event{f, e})
		if k != 2 || err != api.OK {
			return
		}
		if !equal(first, other) {
			t.Fatalf("%v: %v: %+v and then %+v lead to %v, in the other order to %v", c, p, e, f, first, other)
		}
		switch {
		case e.What == api.EvPush && f.What == api.EvPush:
			pushes++
		case e.What == api.EvLift && f.What == api.EvLift:
			lifts++
		default:
			both++
		}
	}
	widerNets(func(n api.Net) {
		c := mustMake(t, n)
		soundStates(t, n, c, func(p api.Pre) {
			all := legalMoves(c, p)
			for i, e := range all {
				for _, f := range all[:i] {
					if e.U != f.U {
						check(t, c, p, e, f)
					}
				}
			}
		})
	})
	seed := uint64(11)
	for round := range 60 {
		c := mustMake(t, mixed(&seed, 4+round%6, 1<<20))
		p := pre.Begin(c)
		for range 400 {
			e, f := someMove(&seed, c, p), someMove(&seed, c, p)
			if e.U != f.U {
				check(t, c, p, e, f)
			}
			p, _ = relaxed.Move(c, p, e)
		}
	}
	if pushes < 1000 || lifts < 1000 || both < 1000 {
		t.Errorf("only %d pairs of pushes, %d of lifts and %d of both have been tried", pushes, lifts, both)
	}
}

// P9.4: an order in which a second move becomes allowed by the first one alone is possible, and has an effect of its own.
func TestMovesInOneOrder(t *testing.T) {
	n := api.Net{N: 4, S: 0, T: 3, Arcs: []api.Arc{arc(0, 1, 2), arc(1, 2, 2), arc(2, 3, 2)}}
	c := mustMake(t, n)
	p := state(t, n, c, []int64{2, 0, 0}, []int{4, 2, 1, 0})
	e, f := push(1, 2, 2, 2, 1), push(2, 4, 1, 1, 0)
	checkRun(t, "in this order", c, p, []api.Event{e, f}, state(t, n, c, []int64{2, 2, 1}, p.H), 2, api.OK)
	checkRun(t, "in the other order", c, p, []api.Event{f, e}, p, 0, api.ErrPush)
}

// eventsOf7 are the pushes and lifts of layer 7 in p as moves, and the states after them.
func eventsOf7(t *testing.T, c api.Csr, p api.Pre) ([]api.Event, []api.Pre) {
	t.Helper()
	var l []api.Event
	var states []api.Pre
	pushes, lifts := pre.May(c, p)
	for _, a := range pushes {
		q, d, err := pre.Push(c, p, a)
		u, ok := csr.Tail(c, a)
		if err != api.OK || !ok {
			t.Fatalf("%v: %v: Push along %d has the error %d", c, p, a, err)
		}
		l, states = append(l, push(u, a, d, p.H[u], p.H[c.Head[a]])), append(states, q)
	}
	for _, u := range lifts {
		q, err := pre.Lift(c, p, u)
		if err != api.OK {
			t.Fatalf("%v: %v: Lift of %d has the error %d", c, p, u, err)
		}
		l, states = append(l, lift(u, q.H[u])), append(states, q)
	}
	return l, states
}

// checkSteps checks that in a valid state the pushes and lifts of layer 7 are strict moves, and the other way about.
func checkSteps(t *testing.T, c api.Csr, p api.Pre) (int, int) {
	t.Helper()
	l, states := eventsOf7(t, c, p)
	pushes, lifts := 0, 0
	for i, e := range l {
		checkStrict(t, "a step of layer 7", c, p, e, true)
		checkRun(t, "a step of layer 7", c, p, l[i:i+1], states[i], 1, api.OK)
		if e.What == api.EvPush {
			pushes++
		} else {
			lifts++
		}
	}
	strict := 0
	for _, e := range legalMoves(c, p) {
		if relaxed.Strict(c, p, e) {
			strict++
			checkValid(t, c, p, mustMove(t, c, p, e))
		}
	}
	if strict != len(l) || t.Failed() {
		t.Fatalf("%v: %v: %d moves are strict, but layer 7 has %d", c, p, strict, len(l))
	}
	return pushes, lifts
}

// checkValid checks that the valid state p leads to a valid one.
func checkValid(t *testing.T, c api.Csr, p, q api.Pre) {
	t.Helper()
	if !pre.Right(c, q) {
		t.Fatalf("%v: %v is valid, but %v after a strict move is not", c, p, q)
	}
}

// P9.4: each push and each lift of layer 7 is a strict move with the same effect, and strict moves keep heights valid, in all valid states of small networks.
func TestStepsOfLayer7(t *testing.T) {
	pushes, lifts := 0, 0
	check := func(n api.Net) {
		c := mustMake(t, n)
		soundStates(t, n, c, func(p api.Pre) {
			if pre.Right(c, p) {
				a, b := checkSteps(t, c, p)
				pushes, lifts = pushes+a, lifts+b
			}
		})
	}
	smallNets(check)
	fewNets(check)
	widerNets(check)
	if pushes < 300 || lifts < 300 {
		t.Errorf("only %d pushes and %d lifts have been tried", pushes, lifts)
	}
}

// P9.4: whole runs of layer 7, with a choice at every step, are runs of strict moves.
func TestRunsOfLayer7(t *testing.T) {
	seed := uint64(5)
	moves := 0
	for round := range 60 {
		c := mustMake(t, mixed(&seed, 3+round%9, 1))
		first := pre.Begin(c)
		checkRight(t, "the first state", c, first, true)
		p := first
		var run []api.Event
		for {
			checkSteps(t, c, p)
			l, states := eventsOf7(t, c, p)
			if len(l) == 0 {
				break
			}
			next := pick(&seed, len(l))
			run, p = append(run, l[next]), states[next]
		}
		checkRun(t, "a run of layer 7", c, first, run, p, len(run), api.OK)
		moves += len(run)
	}
	if moves < 1000 {
		t.Errorf("only %d moves have been made", moves)
	}
}

// downTooFar tells whether a residual arc that is not used up leads down by more than 1, from S or from elsewhere.
func downTooFar(c api.Csr, p api.Pre, fromS bool) bool {
	for a, left := range p.Res {
		if u, _ := csr.Tail(c, a); left > 0 && p.H[u] > p.H[c.Head[a]]+1 && (fromS || u != c.S) {
			return true
		}
	}
	return false
}

// P9.4: strict moves keep heights valid in all sound states, those of layer 7 and those of layer 6; other moves do not.
func TestStrictMovesKeepHeightsValid(t *testing.T) {
	var kept, keptElse, keptLow, broken int
	check := func(n api.Net) {
		c := mustMake(t, n)
		soundStates(t, n, c, func(p api.Pre) {
			if downTooFar(c, p, false) {
				return
			}
			for _, e := range legalMoves(c, p) {
				q := mustMove(t, c, p, e)
				if !relaxed.Strict(c, p, e) {
					if downTooFar(c, q, false) {
						broken++
					}
					continue
				}
				if downTooFar(c, q, false) || downTooFar(c, q, true) && !downTooFar(c, p, true) {
					t.Fatalf("%v: the heights of %v are valid, but those of %v after %+v are not", n, p, q, e)
				}
				if label.Valid(c, p.Res, p.H) && label.Right(c, q.H) {
					keptLow++
					if !label.Valid(c, q.Res, q.H) {
						t.Fatalf("%v: the heights of %v are valid, but those of %v after %+v are not", n, p, q, e)
					}
				}
				if downTooFar(c, p, true) {
					keptElse++
				} else {
					kept++
				}
			}
		})
	}
	smallNets(check)
	fewNets(check)
	widerNets(check)
	if kept < 300 || keptElse < 300 || keptLow < 300 || broken < 300 {
		t.Errorf("only %d strict moves have been tried, %d with residual arcs from S, %d with low heights, and %d others", kept, keptElse, keptLow, broken)
	}
}
