package relaxed_test

import (
	"slices"
	"testing"

	"acequia/api"
	"acequia/csr"
	"acequia/pre"
	"acequia/relaxed"
)

// wantEffect is the chapter's definition of the effect of a move, written anew, number by number.
func wantEffect(c api.Csr, p api.Pre, e api.Event) api.Pre {
	q := twin(p)
	if e.What == 2 {
		q.H[e.U] = e.H
		return q
	}
	for b := range q.Res {
		switch b {
		case e.Arc:
			q.Res[b] = p.Res[b] - e.D
		case c.Rev[e.Arc]:
			q.Res[b] = p.Res[b] + e.D
		}
	}
	for v := range q.Ex {
		switch v {
		case e.U:
			q.Ex[v] = p.Ex[v] - e.D
		case c.Head[e.Arc]:
			q.Ex[v] = p.Ex[v] + e.D
		}
	}
	return q
}

// checkMove compares Legal, and Move, and Run of this one move to what they should be.
func checkMove(t *testing.T, name string, c api.Csr, p api.Pre, e api.Event, want api.Errno) {
	t.Helper()
	checkLegal(t, name, c, p, e, want)
	end, made := p, 0
	if want == api.OK {
		end, made = wantEffect(c, p, e), 1
	}
	if q, err := relaxed.Move(c, p, e); !equal(q, end) || err != want {
		t.Errorf("%s: Move(%s, %s, %+v) is %s, %d, want %s, %d", name, brief(c), brief(p), e, brief(q), err, brief(end), want)
	}
	checkRun(t, name, c, p, []api.Event{e}, end, made, want)
}

// checkRun compares Run to what it should be.
func checkRun(t *testing.T, name string, c api.Csr, p api.Pre, l []api.Event, end api.Pre, made int, want api.Errno) {
	t.Helper()
	if q, k, err := relaxed.Run(c, p, l); !equal(q, end) || k != made || err != want {
		t.Errorf("%s: Run(%s, %s, %s) is %s, %d, %d, want %s, %d, %d", name, brief(c), brief(p), brief(l), brief(q), k, err, brief(end), made, want)
	}
}

// P9.2: moves to all kinds of ends: along arcs and back, up and down, to S, to T and to others, of all or of some.
func TestMove(t *testing.T) {
	// As in TestLegal; the residual capacities are 0 0 5 1 1 4 6 1 2 0, the excesses -9 2 5 2.
	c, p := brim(t)
	for _, x := range []struct {
		name string
		e    api.Event
		res  []int64
		ex   []int64
		h    []int
	}{
		{"to T, of all that is left", push(1, 3, 1, 2, 0), []int64{0, 0, 5, 0, 1, 4, 6, 1, 3, 0}, []int64{-9, 1, 5, 3}, []int{4, 2, 8, 0}},
		{"to T, of some", push(2, 6, 3, 8, 0), []int64{0, 0, 5, 1, 1, 4, 3, 1, 2, 3}, []int64{-9, 2, 2, 5}, []int{4, 2, 8, 0}},
		{"to T, of all there is", push(2, 6, 5, 8, 7), []int64{0, 0, 5, 1, 1, 4, 1, 1, 2, 5}, []int64{-9, 2, 0, 7}, []int{4, 2, 8, 0}},
		{"back to S, and up", push(1, 2, 2, 2, 1), []int64{2, 0, 3, 1, 1, 4, 6, 1, 2, 0}, []int64{-7, 0, 5, 2}, []int{4, 2, 8, 0}},
		{"back to S, and down", push(2, 5, 4, 8, 1), []int64{0, 4, 5, 1, 1, 0, 6, 1, 2, 0}, []int64{-5, 2, 1, 2}, []int{4, 2, 8, 0}},
		{"up to another one", push(1, 4, 1, 2, 1), []int64{0, 0, 5, 1, 0, 4, 6, 2, 2, 0}, []int64{-9, 1, 6, 2}, []int{4, 2, 8, 0}},
		{"back to another one", push(2, 7, 1, 8, 2), []int64{0, 0, 5, 1, 2, 4, 6, 0, 2, 0}, []int64{-9, 3, 4, 2}, []int{4, 2, 8, 0}},
		{"a lift by 1", lift(1, 3), []int64{0, 0, 5, 1, 1, 4, 6, 1, 2, 0}, []int64{-9, 2, 5, 2}, []int{4, 3, 8, 0}},
		{"a lift to 2N", lift(1, 8), []int64{0, 0, 5, 1, 1, 4, 6, 1, 2, 0}, []int64{-9, 2, 5, 2}, []int{4, 8, 8, 0}},
		{"a lift with other numbers", api.Event{Who: 3, What: api.EvLift, U: 1, Arc: 4, D: 1, H: 5, Low: 9}, []int64{0, 0, 5, 1, 1, 4, 6, 1, 2, 0}, []int64{-9, 2, 5, 2}, []int{4, 5, 8, 0}},
	} {
		want := api.Pre{Res: x.res, Ex: x.ex, H: x.h}
		if q, err := relaxed.Move(c, p, x.e); !equal(q, want) || err != api.OK {
			t.Errorf("%s: Move is %v, %d, want %v", x.name, q, err, want)
		}
		checkMove(t, x.name, c, p, x.e, api.OK)
	}
}

// P9.2: parallel arcs and arcs against each other have residual arcs of their own; the greatest numbers there may be.
func TestMoveAlongOneOfSeveral(t *testing.T) {
	for _, x := range []struct {
		name string
		n    api.Net
		f    []int64
		h    []int
		e    api.Event
		res  []int64
		ex   []int64
	}{
		{"one of two parallel ones", api.Net{N: 3, S: 0, T: 2, Arcs: []api.Arc{arc(0, 1, 9), arc(1, 2, 4), arc(1, 2, 6)}}, []int64{9, 1, 0}, []int{3, 6, 0}, push(1, 3, 5, 6, 0), []int64{0, 9, 3, 1, 1, 5}, []int64{-9, 3, 6}},
		{"one of two against each other", api.Net{N: 3, S: 0, T: 2, Arcs: []api.Arc{arc(0, 1, 9), arc(1, 2, 4), arc(2, 1, 6)}}, []int64{9, 0, 0}, []int{3, 0, 0}, push(1, 2, 4, 0, -1), []int64{0, 9, 0, 0, 4, 6}, []int64{-9, 5, 4}},
		{"as much as there may be", api.Net{N: 3, S: 0, T: 2, Arcs: []api.Arc{arc(0, 1, 1<<61), arc(1, 2, 1<<61)}}, []int64{1 << 61, 0}, []int{3, 1, 0}, push(1, 2, 1<<61, 1, 0), []int64{0, 1 << 61, 0, 1 << 61}, []int64{-1 << 61, 0, 1 << 61}},
		{"1 of as much as there may be", api.Net{N: 3, S: 0, T: 2, Arcs: []api.Arc{arc(0, 1, 1<<62)}}, []int64{1 << 62}, []int{3, 0, 0}, push(1, 1, 1, 0, -1), []int64{1, 1<<62 - 1}, []int64{1 - 1<<62, 1<<62 - 1, 0}},
		{"all, back", api.Net{N: 3, S: 0, T: 2, Arcs: []api.Arc{arc(0, 1, 1<<62)}}, []int64{1 << 62}, []int{3, 0, 0}, push(1, 1, 1<<62, 0, -1), []int64{1 << 62, 0}, []int64{0, 0, 0}},
	} {
		c := mustMake(t, x.n)
		p := state(t, x.n, c, x.f, x.h)
		want := api.Pre{Res: x.res, Ex: x.ex, H: x.h}
		if q, err := relaxed.Move(c, p, x.e); !equal(q, want) || err != api.OK {
			t.Errorf("%s: Move is %v, %d, want %v", x.name, q, err, want)
		}
	}
}

// tour is moves that are allowed one after the other from brim on, each of which asks for those before it, and the states after them.
func tour(t *testing.T, c api.Csr, p api.Pre) ([]api.Event, []api.Pre) {
	l := []api.Event{
		lift(1, 5),          // 1 is at 5 now
		push(1, 4, 1, 5, 4), // 2 has 6, nothing is left of 1>2
		push(2, 6, 6, 8, 0), // T has 8, 2 has nothing
		push(1, 3, 1, 5, 0), // T has 9, 1 has nothing
		lift(1, 8),          // 1 is at 2N
	}
	states := []api.Pre{p}
	for _, e := range l {
		p = wantEffect(c, p, e)
		states = append(states, p)
	}
	if want := []int64{-9, 0, 0, 9}; !slices.Equal(p.Ex, want) || !slices.Equal(p.H, []int{4, 8, 8, 0}) {
		t.Fatalf("the last state is %v", p)
	}
	return l, states
}

// P9.2: lists of moves that are empty, and that have an error at first, in the middle and at the end, and several ones.
func TestRun(t *testing.T) {
	c, p := brim(t)
	l, states := tour(t, c, p)
	checkRun(t, "nil", c, p, nil, p, 0, api.OK)
	checkRun(t, "empty", c, p, []api.Event{}, p, 0, api.OK)
	for k := range len(l) + 1 {
		checkRun(t, "the first ones", c, p, l[:k], states[k], k, api.OK)
		for _, x := range []struct {
			e    api.Event
			want api.Errno
		}{
			{lift(0, 5), api.ErrArg}, {push(1, 5, 1, 2, 0), api.ErrArg}, {api.Event{}, api.ErrArg}, {lift(2, 8), api.ErrPush}, {push(2, 6, 7, 8, 0), api.ErrPush},
		} {
			with := slices.Insert(slices.Clone(l), k, x.e)
			checkRun(t, "an error", c, p, with, states[k], k, x.want)
			checkRun(t, "an error at the end", c, p, with[:k+1], states[k], k, x.want)
			checkRun(t, "several errors", c, p, append(with, lift(-1, 0), lift(1, 0)), states[k], k, x.want)
			checkRun(t, "an error twice", c, p, slices.Insert(with, k, x.e), states[k], k, x.want)
		}
	}
	checkRun(t, "one is left out", c, p, l[1:], p, 0, api.ErrPush)
	checkRun(t, "another one is left out", c, p, []api.Event{l[0], l[2]}, states[1], 1, api.ErrPush)
	checkRun(t, "one twice", c, p, []api.Event{l[0], l[0], l[1]}, states[1], 1, api.ErrPush)
	checkRun(t, "ErrPush, then ErrArg", c, p, []api.Event{l[0], lift(1, 5), lift(0, 5)}, states[1], 1, api.ErrPush)
	checkRun(t, "ErrArg, then ErrPush", c, p, []api.Event{l[0], lift(0, 5), lift(1, 5)}, states[1], 1, api.ErrArg)
}

// someMove is a move of a vertex of p that follows from the seed; it may or may not be allowed.
func someMove(seed *uint64, c api.Csr, p api.Pre) api.Event {
	// One more than there are, and more residual arcs of a vertex than it has, are wrong now and then.
	u := pick(seed, c.N+1)
	if u == c.N || pick(seed, 3) == 0 {
		return api.Event{What: uint8(2 - pick(seed, 20)/19), Who: u, U: u, H: pick(seed, 2*c.N+2)}
	}
	a := c.First[u] + pick(seed, c.First[u+1]-c.First[u]+1)
	d := int64(1)
	if a < csr.Len(c) {
		d = min(p.Ex[u], p.Res[a])
		switch pick(seed, 4) {
		case 0:
			d++
		case 1:
			d -= d / 2
		}
	}
	return push(u, a, d, p.H[u]-pick(seed, 8)/7, p.H[u]-pick(seed, 5))
}

// P9.1 to P9.4: long runs of greater networks, move by move what they are by definition, and together what Run says.
func TestLongRuns(t *testing.T) {
	seed := uint64(3)
	var got [64]int
	for round := range 80 {
		n := mixed(&seed, 3+round%8, int64(1)<<(round%50))
		c := mustMake(t, n)
		first := pre.Begin(c)
		p := first
		var l []api.Event
		for range 300 {
			e := someMove(&seed, c, p)
			want := wantLegal(c, p, e)
			got[want]++
			checkMove(t, "a long run", c, p, e, want)
			checkStrict(t, "a long run", c, p, e, wantStrict(c, p, e))
			if want != api.OK {
				checkRun(t, "a long run", c, first, append(slices.Clone(l), e, lift(-1, 1)), p, len(l), want)
				continue
			}
			l = append(l, e)
			p, _ = relaxed.Move(c, p, e)
			if !relaxed.Right(c, p) || !wantRight(n, c, p) {
				t.Fatalf("%v: %v is not sound", n, p)
			}
		}
		checkRun(t, "a long run", c, first, l, p, len(l), api.OK)
		if t.Failed() {
			t.FailNow()
		}
	}
	if got[api.OK] < 1000 || got[api.ErrArg] < 1000 || got[api.ErrPush] < 1000 {
		t.Errorf("only %d moves are allowed, %d ErrArg, %d ErrPush", got[api.OK], got[api.ErrArg], got[api.ErrPush])
	}
}

// P9.2: a network as large as there may be, with a list of many moves.
func TestLargest(t *testing.T) {
	c := mustMake(t, large())
	first := pre.Begin(c)
	p := twin(first)
	seed := uint64(8)
	var l []api.Event
	for len(l) < 100000 {
		e := someMove(&seed, c, p)
		if wantLegal(c, p, e) != api.OK {
			continue
		}
		l = append(l, e)
		// In place, as one state a move would take too long.
		if e.What == api.EvLift {
			p.H[e.U] = e.H
			continue
		}
		p.Res[e.Arc] -= e.D
		p.Res[c.Rev[e.Arc]] += e.D
		p.Ex[e.U] -= e.D
		p.Ex[c.Head[e.Arc]] += e.D
	}
	checkRun(t, "large", c, first, l, p, len(l), api.OK)
	checkRun(t, "large, with an error at the end", c, first, append(l, push(c.S, 0, 1, c.N, 0)), p, len(l), api.ErrArg)
	checkRight(t, "large", c, p, true)
	pushes := 0
	for _, e := range l {
		if e.What == api.EvPush {
			pushes++
		}
	}
	if pushes < 10000 || len(l)-pushes < 1000 {
		t.Errorf("only %d of %d are pushes", pushes, len(l))
	}
	for range 100 {
		e := someMove(&seed, c, p)
		checkMove(t, "large", c, p, e, wantLegal(c, p, e))
		checkStrict(t, "large", c, p, e, wantStrict(c, p, e))
	}
}
