package relaxed_test

import (
	"math"
	"testing"

	"acequia/api"
	"acequia/csr"
	"acequia/relaxed"
)

// isTail tells whether the residual arc a is in the row of u.
func isTail(c api.Csr, u, a int) bool {
	return c.First[u] <= a && a < c.First[u+1]
}

// wantLegal is the chapter's definition of a move that is allowed, written anew.
func wantLegal(c api.Csr, p api.Pre, e api.Event) api.Errno {
	isPush, isLift := e.What == 1, e.What == 2
	if !isPush && !isLift || e.U < 0 || e.U >= c.N || e.U == c.S || e.U == c.T || isPush && !isTail(c, e.U, e.Arc) {
		return api.ErrArg
	}
	if isPush && e.D >= 1 && e.D <= p.Ex[e.U] && e.D <= p.Res[e.Arc] && e.H == p.H[e.U] && e.H > e.Low {
		return api.OK
	}
	if isLift && e.H > p.H[e.U] && e.H <= 2*c.N {
		return api.OK
	}
	return api.ErrPush
}

// checkLegal compares Legal to what it should be.
func checkLegal(t *testing.T, name string, c api.Csr, p api.Pre, e api.Event, want api.Errno) {
	t.Helper()
	if got := relaxed.Legal(c, p, e); got != want {
		t.Errorf("%s: Legal(%s, %s, %+v) is %d, want %d", name, brief(c), brief(p), e, got, want)
	}
}

// allEvents calls f with moves of all kinds in p: of vertices and along residual arcs that are, and that are not, with numbers on both sides of each bound.
func allEvents(c api.Csr, p api.Pre, most int64, f func(e api.Event)) {
	for u := -1; u <= c.N; u++ {
		h := 0
		if 0 <= u && u < c.N {
			h = p.H[u]
		}
		for a := -1; a <= csr.Len(c); a++ {
			for d := int64(-1); d <= most+1; d++ {
				for _, x := range [][2]int{{h, h - 1}, {h, h}, {h, h + 1}, {h, -7}, {h - 1, h - 2}, {h + 1, h}} {
					f(push(u, a, d, x[0], x[1]))
				}
			}
		}
		for to := -1; to <= 2*c.N+1; to++ {
			f(api.Event{Who: to, What: api.EvLift, U: u, Arc: u - to, D: int64(u), H: to, Low: to + 1})
		}
		f(api.Event{What: 0, U: u, Arc: 1, D: 1, H: h, Low: h - 1})
		f(api.Event{What: 3, U: u, Arc: 2, D: 1, H: h + 1, Low: h})
		f(api.Event{What: 255, U: u, Arc: 2, D: 1, H: h + 1, Low: h})
	}
}

// brim is the network of chapter 1 with 4 at vertex 1, which is at 2, 3 at vertex 2, which is at 8, and 1 left of the arc 1 to 3.
func brim(t *testing.T) (api.Csr, api.Pre) {
	n := example()
	c := mustMake(t, n)
	p := state(t, n, c, []int64{5, 4, 2, 0, 1}, []int{4, 2, 8, 0})
	p.Ex[1], p.Ex[2] = 2, 5
	if !relaxed.Right(c, p) {
		t.Fatalf("%v is not sound", p)
	}
	return c, p
}

// P9.1: moves that are allowed, and such that are not, for each reason alone.
func TestLegal(t *testing.T) {
	// Vertex 1 has 2 and is at 2; along its residual arcs 2 (to S), 3 (to T) and 4 (to 2) there are 5, 1 and 1 left. Vertex 2 has 5 and is at 8; along 5 (to S), 6 (to T) and 7 (to 1) there are 4, 6 and 1 left.
	c, p := brim(t)
	for _, x := range []struct {
		name string
		e    api.Event
		want api.Errno
	}{
		{"a push of all there is", push(1, 2, 2, 2, 1), api.OK},
		{"a push of less", push(1, 2, 1, 2, 1), api.OK},
		{"a push of all that is left of the residual arc", push(1, 3, 1, 2, 0), api.OK},
		{"a push up", push(1, 4, 1, 2, 1), api.OK},
		{"a push with a Low far below", push(1, 3, 1, 2, math.MinInt), api.OK},
		{"a push with a Low that is just below", push(2, 6, 5, 8, 7), api.OK},
		{"a push from 2N", push(2, 7, 1, 8, -1), api.OK},
		{"a push by another one", api.Event{Who: -5, What: api.EvPush, U: 1, Arc: 2, D: 1, H: 2, Low: 1}, api.OK},
		{"a push by one more", api.Event{Who: 64, What: api.EvPush, U: 1, Arc: 2, D: 1, H: 2, Low: 1}, api.OK},
		{"a push of 0", push(1, 2, 0, 2, 1), api.ErrPush},
		{"a push of -1", push(1, 2, -1, 2, 1), api.ErrPush},
		{"a push of far less", push(1, 2, math.MinInt64, 2, 1), api.ErrPush},
		{"a push of more than the excess", push(1, 2, 3, 2, 1), api.ErrPush},
		{"a push of more than is left", push(1, 3, 2, 2, 0), api.ErrPush},
		{"a push of more than both", push(1, 3, 3, 2, 0), api.ErrPush},
		{"a push of far more", push(1, 2, math.MaxInt64, 2, 1), api.ErrPush},
		{"a push from below the height", push(1, 2, 1, 1, 0), api.ErrPush},
		{"a push from above the height", push(1, 2, 1, 3, 1), api.ErrPush},
		{"a push from far above", push(1, 2, 1, math.MaxInt, 1), api.ErrPush},
		{"a push with a Low that is the height", push(1, 2, 1, 2, 2), api.ErrPush},
		{"a push with a Low above the height", push(1, 2, 1, 2, 3), api.ErrPush},
		{"a push with a Low far above", push(1, 2, 1, 2, math.MaxInt), api.ErrPush},
		{"a lift by 1", lift(1, 3), api.OK},
		{"a lift by more", lift(1, 6), api.OK},
		{"a lift to 2N - 1", lift(1, 7), api.OK},
		{"a lift to 2N", lift(1, 8), api.OK},
		{"a lift to 2N + 1", lift(1, 9), api.ErrPush},
		{"a lift far above", lift(1, math.MaxInt), api.ErrPush},
		{"a lift to where it is", lift(1, 2), api.ErrPush},
		{"a lift to below", lift(1, 1), api.ErrPush},
		{"a lift to 0", lift(1, 0), api.ErrPush},
		{"a lift to -1", lift(1, -1), api.ErrPush},
		{"a lift far below", lift(1, math.MinInt), api.ErrPush},
		{"a lift from 2N to 2N", lift(2, 8), api.ErrPush},
		{"a lift from 2N to 2N + 1", lift(2, 9), api.ErrPush},
		{"a lift in which nothing else matters", api.Event{Who: -1, What: api.EvLift, U: 1, Arc: -9, D: math.MinInt64, H: 3, Low: math.MaxInt}, api.OK},
		{"a lift in which nothing else matters at all", api.Event{Who: 99, What: api.EvLift, U: 1, Arc: 6, D: math.MaxInt64, H: 3, Low: math.MinInt}, api.OK},
		{"neither, 0", api.Event{What: 0, U: 1, Arc: 2, D: 1, H: 2, Low: 1}, api.ErrArg},
		{"neither, 3", api.Event{What: 3, U: 1, Arc: 2, D: 1, H: 3, Low: 1}, api.ErrArg},
		{"neither, 255", api.Event{What: 255, U: 1, Arc: 2, D: 1, H: 3, Low: 1}, api.ErrArg},
		{"a push of a vertex far below", push(math.MinInt, 2, 1, 2, 1), api.ErrArg},
		{"a push of -1", push(-1, 2, 1, 2, 1), api.ErrArg},
		{"a push of S", push(0, 0, 1, 4, 1), api.ErrArg},
		{"a push of T", push(3, 8, 1, 0, -1), api.ErrArg},
		{"a push of one more", push(4, 2, 1, 2, 1), api.ErrArg},
		{"a push of a vertex far above", push(math.MaxInt, 2, 1, 2, 1), api.ErrArg},
		{"a push of 1 along the last one of 0", push(1, 1, 1, 2, 1), api.ErrArg},
		{"a push of 1 along the first one of 2", push(1, 5, 1, 2, 1), api.ErrArg},
		{"a push of 1 along one that ends there", push(1, 0, 1, 2, 1), api.ErrArg},
		{"a push of 1 along -1", push(1, -1, 1, 2, 1), api.ErrArg},
		{"a push of 1 along what is far below", push(1, math.MinInt, 1, 2, 1), api.ErrArg},
		{"a push of 2 along one more", push(2, 10, 1, 8, 1), api.ErrArg},
		{"a push of 2 along what is far above", push(2, math.MaxInt, 1, 8, 1), api.ErrArg},
		{"a lift of a vertex far below", lift(math.MinInt, 5), api.ErrArg},
		{"a lift of -1", lift(-1, 5), api.ErrArg},
		{"a lift of S", lift(0, 5), api.ErrArg},
		{"a lift of T", lift(3, 5), api.ErrArg},
		{"a lift of one more", lift(4, 5), api.ErrArg},
		{"a lift of a vertex far above", lift(math.MaxInt, 5), api.ErrArg},
	} {
		checkMove(t, x.name, c, p, x.e, x.want)
		if got := wantLegal(c, p, x.e); got != x.want {
			t.Errorf("%s: by definition it is %d", x.name, got)
		}
	}
}

// P9.1: a vertex at 0 can push if Low is less; one without excess or without residual arcs can be lifted, but not pushed from.
func TestLegalElsewhere(t *testing.T) {
	n := api.Net{N: 5, S: 0, T: 4, Arcs: []api.Arc{arc(0, 1, 2), arc(1, 2, 2), arc(2, 4, 2)}}
	c := mustMake(t, n)
	p := state(t, n, c, []int64{2, 0, 0}, []int{5, 0, 0, 0, 0})
	for _, x := range []struct {
		name string
		e    api.Event
		want api.Errno
	}{
		{"a push from 0 with the Low -1", push(1, 2, 2, 0, -1), api.OK},
		{"a push from 0 with the Low 0", push(1, 2, 2, 0, 0), api.ErrPush},
		{"a push to one above", push(1, 1, 1, 0, -1), api.OK},
		{"a push without excess", push(2, 4, 1, 0, -1), api.ErrPush},
		{"a push of nothing without excess", push(2, 4, 0, 0, -1), api.ErrPush},
		{"a lift without excess", lift(2, 10), api.OK},
		{"a push without residual arcs", push(3, 5, 1, 0, -1), api.ErrArg},
		{"a lift without residual arcs", lift(3, 1), api.OK},
		{"a lift without residual arcs, to 2N + 1", lift(3, 11), api.ErrPush},
	} {
		checkMove(t, x.name, c, p, x.e, x.want)
	}
}

// P9.1: whatever is wrong besides, ErrArg is ahead of ErrPush.
func TestErrArgFirst(t *testing.T) {
	c, p := brim(t)
	for name, spoil := range map[string]func(e *api.Event){
		"neither, 0": func(e *api.Event) { e.What = 0 },
		"neither, 3": func(e *api.Event) { e.What = 3 },
		"of -1":      func(e *api.Event) { e.U = -1 },
		"of S":       func(e *api.Event) { e.U = c.S },
		"of T":       func(e *api.Event) { e.U = c.T },
		"of N":       func(e *api.Event) { e.U = c.N },
	} {
		for _, e := range []api.Event{
			push(1, 2, 0, 2, 1), push(1, 2, -1, 2, 1), push(1, 2, 9, 2, 1), push(1, 3, 2, 2, 1), push(1, 2, 1, 1, 0), push(1, 2, 1, 3, 0), push(1, 2, 1, 2, 2), push(1, 2, 0, 7, 8),
			lift(1, 2), lift(1, 0), lift(1, 9), lift(1, -1),
		} {
			checkMove(t, "wrong once", c, p, e, api.ErrPush)
			spoil(&e)
			checkMove(t, name, c, p, e, api.ErrArg)
		}
	}
	for _, a := range []int{-1, 0, 1, 5, 6, 9, 10} {
		for _, e := range []api.Event{push(1, a, 0, 2, 1), push(1, a, 9, 2, 1), push(1, a, 1, 1, 0), push(1, a, 1, 2, 2), push(1, a, 0, 7, 8)} {
			checkMove(t, "along another one", c, p, e, api.ErrArg)
		}
	}
}

// P9.1, P9.2, P9.3: all is what it is by definition, for moves of all kinds in all sound states of small networks.
func TestByDefinition(t *testing.T) {
	var got [64]int
	strict := 0
	fewNets(func(n api.Net) {
		c := mustMake(t, n)
		var most int64
		for _, a := range n.Arcs {
			most = max(most, a.Cap)
		}
		soundStates(t, n, c, func(p api.Pre) {
			allEvents(c, p, most, func(e api.Event) {
				want := wantLegal(c, p, e)
				got[want]++
				checkMove(t, "by definition", c, p, e, want)
				isStrict := wantStrict(c, p, e)
				checkStrict(t, "by definition", c, p, e, isStrict)
				if isStrict {
					strict++
				}
			})
			if t.Failed() {
				t.FailNow()
			}
		})
	})
	if got[api.OK] < 1000 || got[api.ErrArg] < 1000 || got[api.ErrPush] < 1000 || strict < 100 {
		t.Errorf("only %d moves are allowed, %d strict, %d ErrArg, %d ErrPush", got[api.OK], strict, got[api.ErrArg], got[api.ErrPush])
	}
}
