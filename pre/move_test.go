package pre_test

import (
	"math"
	"slices"
	"testing"

	"acequia/api"
	"acequia/csr"
	"acequia/pre"
)

// wantPush is the chapter's definition of a push, written anew, number by number.
func wantPush(c api.Csr, p api.Pre, a int) (api.Pre, int64, api.Errno) {
	u := tailOf(c, a)
	if u < 0 {
		return api.Pre{}, 0, api.ErrArg
	}
	v := c.Head[a]
	if u == c.S || u == c.T || p.Ex[u] <= 0 || p.Res[a] <= 0 || p.H[u]-p.H[v] != 1 {
		return api.Pre{}, 0, api.ErrPush
	}
	d := min(p.Ex[u], p.Res[a])
	var q api.Pre
	for b, left := range p.Res {
		switch b {
		case a:
			left -= d
		case c.Rev[a]:
			left += d
		}
		q.Res = append(q.Res, left)
	}
	for w, excess := range p.Ex {
		switch w {
		case u:
			excess -= d
		case v:
			excess += d
		}
		q.Ex = append(q.Ex, excess)
	}
	q.H = slices.Clone(p.H)
	return q, d, api.OK
}

// wantLift is the chapter's definition of a lift, written anew: of all heights, from the least one on, the first one at which u has an open end counts.
func wantLift(c api.Csr, p api.Pre, u int) (api.Pre, api.Errno) {
	if u < 0 || u >= c.N {
		return api.Pre{}, api.ErrArg
	}
	if u == c.S || u == c.T || p.Ex[u] <= 0 {
		return api.Pre{}, api.ErrPush
	}
	for low := range 2 * c.N {
		for a := c.First[u]; a < c.First[u+1]; a++ {
			if p.Res[a] <= 0 || p.H[c.Head[a]] != low {
				continue
			}
			if p.H[u] == low+1 {
				return api.Pre{}, api.ErrPush
			}
			q := api.Pre{Res: slices.Clone(p.Res), Ex: slices.Clone(p.Ex), H: slices.Clone(p.H)}
			q.H[u] = low + 1
			return q, api.OK
		}
	}
	return api.Pre{}, api.ErrPush
}

// checkPush compares Push to what it should be.
func checkPush(t *testing.T, name string, c api.Csr, p api.Pre, a int) {
	t.Helper()
	q, d, err := pre.Push(c, p, a)
	wantQ, wantD, want := wantPush(c, p, a)
	if !equal(q, wantQ) || d != wantD || err != want || err != api.OK && !isZero(q) {
		t.Fatalf("%s: Push(%s, %s, %d) is %s, %d, %d, want %s, %d, %d", name, brief(c), brief(p), a, brief(q), d, err, brief(wantQ), wantD, want)
	}
}

// checkLift compares Lift to what it should be.
func checkLift(t *testing.T, name string, c api.Csr, p api.Pre, u int) {
	t.Helper()
	q, err := pre.Lift(c, p, u)
	if wantQ, want := wantLift(c, p, u); !equal(q, wantQ) || err != want || err != api.OK && !isZero(q) {
		t.Fatalf("%s: Lift(%s, %s, %d) is %s, %d, want %s, %d", name, brief(c), brief(p), u, brief(q), err, brief(wantQ), want)
	}
}

// checkMay compares May to what it should be.
func checkMay(t *testing.T, name string, c api.Csr, p api.Pre, pushes, lifts []int) {
	t.Helper()
	if gotP, gotL := pre.May(c, p); !slices.Equal(gotP, pushes) || !slices.Equal(gotL, lifts) {
		t.Fatalf("%s: May(%s, %s) is %s, %s, want %s, %s", name, brief(c), brief(p), brief(gotP), brief(gotL), brief(pushes), brief(lifts))
	}
}

// checkByDefinition compares all calls for a valid state to the definitions.
func checkByDefinition(t *testing.T, c api.Csr, p api.Pre) {
	t.Helper()
	var active, pushes, lifts []int
	for u := -2; u < c.N+2; u++ {
		checkLift(t, "by definition", c, p, u)
		if _, err := wantLift(c, p, u); err == api.OK {
			lifts = append(lifts, u)
		}
		if 0 <= u && u < c.N && u != c.S && u != c.T && p.Ex[u] > 0 {
			active = append(active, u)
		}
	}
	for a := -2; a < csr.Len(c)+2; a++ {
		checkPush(t, "by definition", c, p, a)
		if _, _, err := wantPush(c, p, a); err == api.OK {
			pushes = append(pushes, a)
		}
	}
	checkMay(t, "by definition", c, p, pushes, lifts)
	if got := pre.Active(c, p); !slices.Equal(got, active) {
		t.Fatalf("Active(%s, %s) is %v, want %v", brief(c), brief(p), got, active)
	}
}

// P7.2: pushes that use up the excess, the residual arc, or both, along arcs and back, to vertices with and without an excess, to S and to T.
func TestPush(t *testing.T) {
	for _, x := range []struct {
		name string
		n    api.Net
		f    []int64
		h    []int
		a    int
		d    int64
		res  []int64
		ex   []int64
	}{
		{"uses up the residual arc", example(), []int64{5, 4, 0, 0, 0}, []int{4, 1, 0, 0}, 3, 3, []int64{0, 0, 5, 0, 2, 4, 6, 0, 3, 0}, []int64{-9, 2, 4, 3}},
		{"uses up the rest of the residual arc", example(), []int64{5, 4, 1, 0, 0}, []int{4, 1, 0, 0}, 3, 2, []int64{0, 0, 5, 0, 2, 4, 6, 0, 3, 0}, []int64{-9, 2, 4, 3}},
		{"uses up the excess", example(), []int64{5, 4, 0, 0, 0}, []int{4, 0, 1, 0}, 6, 4, []int64{0, 0, 5, 3, 2, 4, 2, 0, 0, 4}, []int64{-9, 5, 0, 4}},
		{"uses up both", example(), []int64{5, 4, 3, 0, 0}, []int{4, 1, 0, 0}, 4, 2, []int64{0, 0, 5, 0, 0, 4, 6, 2, 3, 0}, []int64{-9, 0, 6, 3}},
		{"back along an arc, and uses up the excess", line(), []int64{6, 4, 1, 0}, []int{5, 1, 2, 1, 0}, 3, 3, []int64{0, 6, 3, 1, 3, 1, 0, 0}, []int64{-6, 5, 0, 1, 0}},
		{"back along an arc, and uses it up", line(), []int64{6, 4, 0, 0}, []int{5, 1, 2, 1, 0}, 3, 4, []int64{0, 6, 4, 0, 4, 0, 0, 0}, []int64{-6, 6, 0, 0, 0}},
		{"back to S", line(), []int64{6, 4, 0, 0}, []int{5, 6, 1, 0, 0}, 1, 2, []int64{2, 4, 0, 4, 4, 0, 0, 0}, []int64{-4, 0, 4, 0, 0}},
		{"one of two parallel arcs", api.Net{N: 3, S: 0, T: 2, Arcs: []api.Arc{arc(0, 1, 9), arc(1, 2, 4), arc(1, 2, 6)}}, []int64{9, 1, 0}, []int{3, 1, 0}, 3, 6, []int64{0, 9, 3, 0, 1, 6}, []int64{-9, 2, 7}},
		{"one of two against each other", api.Net{N: 3, S: 0, T: 2, Arcs: []api.Arc{arc(0, 1, 9), arc(1, 2, 4), arc(2, 1, 6)}}, []int64{9, 0, 0}, []int{3, 1, 0}, 2, 4, []int64{0, 9, 0, 0, 4, 6}, []int64{-9, 5, 4}},
		{"1 of 1", api.Net{N: 3, S: 2, T: 0, Arcs: []api.Arc{arc(2, 1, 1), arc(1, 0, 1)}}, []int64{1, 0}, []int{0, 1, 3}, 2, 1, []int64{1, 1, 0, 0}, []int64{1, 0, -1}},
		{"as much as there may be", api.Net{N: 3, S: 0, T: 2, Arcs: []api.Arc{arc(0, 1, 1<<61), arc(1, 2, 1<<61)}}, []int64{1 << 61, 0}, []int{3, 1, 0}, 2, 1 << 61, []int64{0, 1 << 61, 0, 1 << 61}, []int64{-1 << 61, 0, 1 << 61}},
		{"as much as there may be, back", api.Net{N: 3, S: 0, T: 2, Arcs: []api.Arc{arc(0, 1, 1<<62)}}, []int64{1 << 62}, []int{3, 4, 0}, 1, 1 << 62, []int64{1 << 62, 0}, []int64{0, 0, 0}},
	} {
		c := mustMake(t, x.n)
		p := state(t, x.n, c, x.f, x.h)
		checkRight(t, x.name, c, p, true)
		want := api.Pre{Res: x.res, Ex: x.ex, H: x.h}
		if q, d, err := pre.Push(c, p, x.a); !equal(q, want) || d != x.d || err != api.OK {
			t.Errorf("%s: Push is %v, %d, %d, want %v, %d", x.name, q, d, err, want, x.d)
		}
	}
}

// P7.2: what is no residual arc, and where no push is possible: at S, at T, at vertices without excess, along residual arcs that are closed, level, lead up, or down by more than 1.
func TestPushErrors(t *testing.T) {
	n := example()
	c := mustMake(t, n)
	p := state(t, n, c, []int64{5, 4, 3, 0, 0}, []int{4, 1, 0, 0})
	for _, x := range []struct {
		name string
		a    int
		want api.Errno
	}{
		{"far below", math.MinInt, api.ErrArg},
		{"-1", -1, api.ErrArg},
		{"the first", 0, api.ErrPush},
		{"open, and leads down by 1", 4, api.OK},
		{"the last", 9, api.ErrPush},
		{"one more", 10, api.ErrArg},
		{"two more", 11, api.ErrArg},
		{"far above", math.MaxInt, api.ErrArg},
		{"from S, closed", 1, api.ErrPush},
		{"open, to S", 2, api.ErrPush},
		{"leads down by 1, but is closed", 3, api.ErrPush},
		{"level, and open", 6, api.ErrPush},
		{"leads up, and is closed", 7, api.ErrPush},
		{"from T, leads up, and is open", 8, api.ErrPush},
	} {
		q, d, err := pre.Push(c, p, x.a)
		if err != x.want || err != api.OK && (!isZero(q) || d != 0) {
			t.Errorf("%s: Push is %v, %d, %d, want the error %d", x.name, q, d, err, x.want)
		}
		checkPush(t, x.name, c, p, x.a)
	}
	// Nothing is a residual arc of a network without such.
	empty := mustMake(t, api.Net{N: 2, S: 0, T: 1, Arcs: []api.Arc{arc(0, 0, 3)}})
	for a := -1; a < 3; a++ {
		if q, d, err := pre.Push(empty, wantBegin(empty), a); !isZero(q) || d != 0 || err != api.ErrArg {
			t.Errorf("no residual arcs: Push along %d is %v, %d, %d", a, q, d, err)
		}
	}
}

// P7.2 to P7.4: S, T and vertices without excess are neither pushed from nor lifted, however their residual arcs lead.
func TestOnlyActive(t *testing.T) {
	for _, x := range []struct {
		name string
		n    api.Net
		f    []int64
		h    []int
		a, u int
	}{
		{"from S, down by 1", api.Net{N: 3, S: 0, T: 2, Arcs: []api.Arc{arc(0, 1, 5)}}, []int64{2}, []int{3, 2, 0}, 0, 0},
		{"from S, with all at S", api.Net{N: 3, S: 0, T: 2, Arcs: []api.Arc{arc(0, 1, 5)}}, []int64{0}, []int{3, 2, 0}, 0, 0},
		{"from T, with an excess", api.Net{N: 3, S: 0, T: 2, Arcs: []api.Arc{arc(0, 2, 5), arc(2, 1, 5)}}, []int64{5, 0}, []int{3, 0, 0}, 3, 2},
		{"no excess, down by 1", api.Net{N: 3, S: 0, T: 2, Arcs: []api.Arc{arc(0, 1, 0), arc(1, 2, 5)}}, []int64{0, 0}, []int{3, 1, 0}, 2, 1},
		{"no excess, and level", api.Net{N: 3, S: 0, T: 2, Arcs: []api.Arc{arc(0, 1, 0), arc(1, 2, 5)}}, []int64{0, 0}, []int{3, 0, 0}, 2, 1},
		{"no excess any more", api.Net{N: 3, S: 0, T: 2, Arcs: []api.Arc{arc(0, 1, 3), arc(1, 2, 5)}}, []int64{3, 3}, []int{3, 1, 0}, 2, 1},
		{"no excess, and no open residual arcs", api.Net{N: 3, S: 0, T: 2, Arcs: []api.Arc{arc(2, 1, 5)}}, []int64{0}, []int{3, 5, 0}, 0, 1},
	} {
		c := mustMake(t, x.n)
		p := state(t, x.n, c, x.f, x.h)
		checkRight(t, x.name, c, p, true)
		if q, d, err := pre.Push(c, p, x.a); !isZero(q) || d != 0 || err != api.ErrPush {
			t.Errorf("%s: Push along %d is %v, %d, %d", x.name, x.a, q, d, err)
		}
		if q, err := pre.Lift(c, p, x.u); !isZero(q) || err != api.ErrPush {
			t.Errorf("%s: Lift of %d is %v, %d", x.name, x.u, q, err)
		}
		if pushes, lifts := pre.May(c, p); slices.Contains(pushes, x.a) || slices.Contains(lifts, x.u) {
			t.Errorf("%s: May is %v, %v", x.name, pushes, lifts)
		}
	}
}

// P7.3: lifts by 1, by more than 1, above S, and as high as can be; closed residual arcs do not count.
func TestLift(t *testing.T) {
	for _, x := range []struct {
		name string
		n    api.Net
		f    []int64
		h    []int
		u    int
		want int
	}{
		{"by 1", example(), []int64{5, 4, 0, 0, 0}, []int{4, 0, 0, 0}, 1, 1},
		{"by 1, to what is neither S nor T", line(), []int64{6, 0, 0, 0}, []int{5, 0, 0, 0, 0}, 1, 1},
		{"by 2", line(), []int64{6, 0, 0, 0}, []int{5, 0, 1, 0, 0}, 1, 2},
		{"by more", line(), []int64{6, 0, 0, 0}, []int{5, 0, 4, 5, 0}, 1, 5},
		{"from above 0", line(), []int64{6, 0, 0, 0}, []int{5, 3, 3, 5, 0}, 1, 4},
		{"above S, by 1", line(), []int64{6, 4, 0, 0}, []int{5, 5, 1, 0, 0}, 1, 6},
		{"above S, by all", line(), []int64{6, 4, 0, 0}, []int{5, 0, 0, 0, 0}, 1, 6},
		{"above S, though another one is higher", line(), []int64{6, 0, 0, 0}, []int{5, 5, 6, 5, 0}, 1, 6},
		{"above one above S", line(), []int64{6, 4, 0, 0}, []int{5, 6, 0, 9, 0}, 2, 7},
		{"above two above S", line(), []int64{6, 4, 4, 0}, []int{5, 6, 7, 0, 0}, 3, 8},
		{"a closed one is lower", example(), []int64{5, 4, 3, 0, 0}, []int{4, 1, 1, 0}, 1, 2},
		{"the lowest is the first", fan(), []int64{9, 0, 0, 3}, []int{5, 1, 6, 7, 0}, 1, 6},
		{"the lowest is the last", fan(), []int64{9, 0, 0, 0}, []int{5, 0, 3, 2, 0}, 1, 1},
		{"the lowest is in the middle", fan(), []int64{9, 0, 0, 3}, []int{5, 0, 2, 3, 0}, 1, 3},
		{"two are the lowest", fan(), []int64{9, 0, 0, 3}, []int{5, 2, 2, 2, 0}, 1, 3},
	} {
		c := mustMake(t, x.n)
		p := state(t, x.n, c, x.f, x.h)
		checkRight(t, x.name, c, p, true)
		want := api.Pre{Res: p.Res, Ex: p.Ex, H: slices.Clone(x.h)}
		want.H[x.u] = x.want
		if q, err := pre.Lift(c, p, x.u); !equal(q, want) || err != api.OK {
			t.Errorf("%s: Lift is %v, %d, want %v", x.name, q, err, want)
		}
	}
}

// P7.3: what is no vertex, and what cannot be lifted: S, T, vertices without excess, and such with an admissible residual arc.
func TestLiftErrors(t *testing.T) {
	n := api.Net{N: 6, S: 1, T: 4, Arcs: []api.Arc{arc(1, 0, 5), arc(0, 4, 2), arc(1, 2, 3), arc(2, 4, 3), arc(1, 5, 4)}}
	c := mustMake(t, n)
	p := state(t, n, c, []int64{5, 2, 3, 0, 4}, []int{0, 6, 1, 0, 0, 0})
	for _, x := range []struct {
		name string
		u    int
		want api.Errno
	}{
		{"far below", math.MinInt, api.ErrArg},
		{"-1", -1, api.ErrArg},
		{"the first", 0, api.OK},
		{"S", 1, api.ErrPush},
		{"an admissible residual arc", 2, api.ErrPush},
		{"no excess", 3, api.ErrPush},
		{"T", 4, api.ErrPush},
		{"the last", 5, api.OK},
		{"one more", 6, api.ErrArg},
		{"two more", 7, api.ErrArg},
		{"far above", math.MaxInt, api.ErrArg},
	} {
		q, err := pre.Lift(c, p, x.u)
		if err != x.want || err != api.OK && !isZero(q) {
			t.Errorf("%s: Lift is %v, %d, want the error %d", x.name, q, err, x.want)
		}
		checkLift(t, x.name, c, p, x.u)
	}
	checkMay(t, "some of each", c, p, []int{6}, []int{0, 5})
}

// P7.4: what is possible, at several vertices, in increasing order.
func TestMay(t *testing.T) {
	n := example()
	c := mustMake(t, n)
	for _, x := range []struct {
		name          string
		f             []int64
		h             []int
		pushes, lifts []int
	}{
		{"the first state", []int64{5, 4, 0, 0, 0}, []int{4, 0, 0, 0}, nil, []int{1, 2}},
		{"both at 1", []int64{5, 4, 0, 0, 0}, []int{4, 1, 1, 0}, []int{3, 6}, nil},
		{"one of two", []int64{5, 4, 0, 0, 0}, []int{4, 0, 1, 0}, []int{6}, []int{1}},
		{"two of one", []int64{5, 4, 0, 0, 0}, []int{4, 1, 0, 0}, []int{3, 4}, []int{2}},
		{"all is with T", []int64{5, 4, 3, 6, 2}, []int{4, 1, 1, 0}, nil, nil},
	} {
		checkMay(t, x.name, c, state(t, n, c, x.f, x.h), x.pushes, x.lifts)
	}
	long, wide := line(), fan()
	c = mustMake(t, long)
	checkMay(t, "to S, and away from it", c, state(t, long, c, []int64{6, 4, 0, 0}, []int{5, 6, 1, 0, 0}), []int{1, 4}, nil)
	c = mustMake(t, wide)
	checkMay(t, "all of one vertex", c, state(t, wide, c, []int64{9, 0, 0, 0}, []int{5, 1, 0, 0, 0}), []int{2, 3, 4}, nil)
	checkMay(t, "some of one vertex, and another one", c, state(t, wide, c, []int64{9, 1, 0, 1}, []int{5, 1, 0, 1, 0}), []int{2, 4}, []int{2})
}

// P7.1 to P7.4: all is what it is by definition, for all valid states of small networks.
func TestByDefinition(t *testing.T) {
	var states, pushes, lifts int
	check := func(n api.Net) {
		c := mustMake(t, n)
		allStates(t, n, c, func(p api.Pre) {
			want := wantRight(n, c, p)
			if pre.Right(c, p) != want {
				t.Fatalf("%v: Right(%v) is %t", n, p, !want)
			}
			if !want {
				return
			}
			checkByDefinition(t, c, p)
			a, u := pre.May(c, p)
			states, pushes, lifts = states+1, pushes+len(a), lifts+len(u)
		})
	}
	smallNets(check)
	widerNets(check)
	if states < 10000 || pushes < 1000 || lifts < 1000 {
		t.Errorf("only %d states have been looked at, with %d pushes, %d lifts", states, pushes, lifts)
	}
}

// P7.1 to P7.4: a network as large as there may be: all is what it is by definition, while it is pushed and lifted.
func TestLargest(t *testing.T) {
	n := large()
	c := mustMake(t, n)
	p := pre.Begin(c)
	for step := range 40 {
		if !pre.Right(c, p) || !wantRight(n, c, p) {
			t.Fatalf("step %d: it is not valid", step)
		}
		pushes, lifts := pre.May(c, p)
		if len(pushes)+len(lifts) == 0 {
			t.Fatalf("step %d: nothing is possible", step)
		}
		for _, a := range append([]int{0, csr.Len(c) - 1, csr.Len(c), step * 700}, pushes[:min(len(pushes), 3)]...) {
			checkPush(t, "large", c, p, a)
		}
		for _, u := range append([]int{0, n.N - 1, n.N, step * 100}, lifts[:min(len(lifts), 3)]...) {
			checkLift(t, "large", c, p, u)
		}
		if len(pushes) > 0 {
			p, _, _ = pre.Push(c, p, pushes[step%len(pushes)])
		} else {
			p, _ = pre.Lift(c, p, lifts[step%len(lifts)])
		}
	}
}
