package fifo_test

import (
	"math"
	"slices"
	"testing"

	"acequia/api"
	"acequia/fifo"
	"acequia/pre"
)

// scribble writes over a list, and over the spare room behind it.
func scribble[E any](list []E, with E) {
	list = list[:cap(list)]
	for i := range list {
		list[i] = with
	}
}

// withSpare is a list in front of spare room that belongs to somebody else; the second result is all of it.
func withSpare[E any](list []E, spare E) ([]E, []E) {
	all := append(slices.Clone(list), spare, spare, spare)
	return all[:len(list)], all
}

// clone copies c.
func clone(c api.Csr) api.Csr {
	c.First, c.Head, c.Rev = slices.Clone(c.First), slices.Clone(c.Head), slices.Clone(c.Rev)
	c.Cap, c.Arc, c.Back = slices.Clone(c.Cap), slices.Clone(c.Arc), slices.Clone(c.Back)
	return c
}

// twin copies p.
func twin(p api.Pre) api.Pre {
	return api.Pre{Res: slices.Clone(p.Res), Ex: slices.Clone(p.Ex), H: slices.Clone(p.H)}
}

// spacious is c with somebody else's memory behind each list, and all of these lists to their ends.
func spacious(c api.Csr) (api.Csr, api.Csr) {
	var all api.Csr
	c.First, all.First = withSpare(c.First, 9)
	c.Head, all.Head = withSpare(c.Head, 9)
	c.Rev, all.Rev = withSpare(c.Rev, 9)
	c.Cap, all.Cap = withSpare(c.Cap, 9)
	c.Arc, all.Arc = withSpare(c.Arc, 9)
	c.Back, all.Back = withSpare(c.Back, true)
	return c, all
}

// roomy is p with somebody else's memory behind each list, and all of these lists to their ends.
func roomy(p api.Pre) (api.Pre, api.Pre) {
	var all api.Pre
	p.Res, all.Res = withSpare(p.Res, 9)
	p.Ex, all.Ex = withSpare(p.Ex, 9)
	p.H, all.H = withSpare(p.H, 9)
	return p, all
}

func same(a, b api.Csr) bool {
	return slices.Equal(a.First, b.First) && slices.Equal(a.Head, b.Head) && slices.Equal(a.Rev, b.Rev) &&
		slices.Equal(a.Cap, b.Cap) && slices.Equal(a.Arc, b.Arc) && slices.Equal(a.Back, b.Back)
}

// scribbleNet writes over all lists of c, and over the spare room behind them.
func scribbleNet(c api.Csr) {
	for _, list := range [][]int{c.First, c.Head, c.Rev, c.Arc} {
		scribble(list, -77)
	}
	scribble(c.Cap, -77)
	scribble(c.Back, true)
}

// scribbleState writes over all lists of p, and over the spare room behind them.
func scribbleState(p api.Pre) {
	scribble(p.Res, -77)
	scribble(p.Ex, -77)
	scribble(p.H, -77)
}

// R3: Run does not change its arguments, nor the spare room of their lists, whether the state is valid or not; nor does what is written to its result.
func TestRunLeavesItsArguments(t *testing.T) {
	madeC := mustMake(t, tangle())
	c, allC := spacious(madeC)
	p, allP := roomy(pre.Begin(madeC))
	end, allEnd := roomy(mustEnd(t, madeC))
	beforeC, beforeP, beforeEnd := clone(allC), twin(allP), twin(allEnd)
	for _, q := range []api.Pre{p, end, {Res: p.Res[:3], Ex: p.Ex, H: p.H}, {Res: p.Res, Ex: allP.Ex, H: p.H}, {Res: p.Res, Ex: p.Ex, H: allP.H}, {}} {
		r, _ := fifo.Run(c, q)
		scribbleState(r)
		if !same(allC, beforeC) || !equal(allP, beforeP) || !equal(allEnd, beforeEnd) {
			t.Fatalf("a run from %v has changed its arguments: %v, %v, %v", q, allC, allP, allEnd)
		}
	}
}

// mustEnd is the end of the run from the first state, in which there is no active vertex.
func mustEnd(t *testing.T, c api.Csr) api.Pre {
	t.Helper()
	end, _ := fifo.Run(c, pre.Begin(c))
	if len(end.H) != c.N || len(pre.Active(c, end)) > 0 {
		t.Fatalf("a run ends with %v", end)
	}
	return end
}

// R3, R4: what Run returns does not change with its arguments, nor with what another call has returned, whether there are any active vertices or not; its lists are apart.
func TestStatesAreNew(t *testing.T) {
	for _, atEnd := range []bool{false, true} {
		c := mustMake(t, tangle())
		p := pre.Begin(c)
		if atEnd {
			p = mustEnd(t, c)
		}
		first, w := fifo.Run(c, p)
		want := twin(first)
		second, w2 := fifo.Run(c, p)
		scribble(first.Res, -77)
		if !slices.Equal(first.Ex, want.Ex) || !slices.Equal(first.H, want.H) {
			t.Errorf("the lists of a state share memory: %v, was %v", first, want)
		}
		scribble(first.Ex, -77)
		if !slices.Equal(first.H, want.H) {
			t.Errorf("the lists of a state share memory: %v, was %v", first, want)
		}
		scribble(first.H, -77)
		scribbleNet(c)
		scribbleState(p)
		if !equal(second, want) || w != w2 {
			t.Errorf("two runs differ, or share memory: %v, %v, was %v, %v", second, w2, want, w)
		}
	}
}

// R3: Solve and Most do not change the arcs, nor the spare room behind them, whether the network is valid or not; nor does what is written to an answer.
func TestSolveLeavesItsArguments(t *testing.T) {
	for _, n := range []api.Net{example(), tangle(), line(2), line(3, arc(0, 1, -1), arc(0, 7, 2)), {N: 1, Arcs: []api.Arc{arc(0, 0, 1)}}} {
		var all []api.Arc
		n.Arcs, all = withSpare(n.Arcs, arc(9, 9, 9))
		before := slices.Clone(all)
		a, _, _ := fifo.Solve(n)
		scribble(a.Flow, -77)
		scribble(a.Side, true)
		fifo.Most(n)
		if !slices.Equal(all, before) {
			t.Errorf("the arcs are %v, were %v", all, before)
		}
	}
}

// R3, R4: what Solve returns does not change with its arguments, nor with what another call has returned.
func TestAnswersAreNew(t *testing.T) {
	n := tangle()
	first, w := mustSolve(t, n)
	want := api.Answer{Flow: slices.Clone(first.Flow), Side: slices.Clone(first.Side), Value: first.Value}
	second, w2 := mustSolve(t, n)
	scribble(first.Flow, -77)
	for v := range first.Side {
		first.Side[v] = !first.Side[v]
	}
	scribble(n.Arcs, arc(-1, -1, -1))
	if !alike(second, want) || w != w2 {
		t.Errorf("two answers differ, or share memory: %v, %v, was %v, %v", second, w2, want, w)
	}
}

// R1: Solve and Most return, and do not panic, for networks of all kinds.
func TestAnyNetworks(t *testing.T) {
	numbers := []int{math.MinInt, -1, 0, 1, 2, 1 << 12, math.MaxInt}
	for _, x := range numbers {
		for _, y := range numbers {
			for _, z := range numbers {
				for _, w := range []int64{math.MinInt64, -1, 0, 1 << 62, math.MaxInt64} {
					n := api.Net{N: x, S: y, T: z, Arcs: []api.Arc{arc(y, z, w), arc(z, y, 0), arc(0, 1, 0)}}
					_, _, err := fifo.Solve(n)
					if _, err2 := fifo.Most(n); err != err2 {
						t.Fatalf("%v: the error of Solve is %d, that of Most %d", n, err, err2)
					}
				}
			}
		}
	}
}

// states are some for c, such that would be valid, if c were a residual network, and such that would not.
func states(c api.Csr) []api.Pre {
	list := []api.Pre{
		{},
		{Res: []int64{0}, Ex: []int64{0}, H: []int{0}},
		{Res: slices.Clone(c.Cap), Ex: make([]int64, 5), H: []int{0, 0, 0, 0, 5}},
		{Res: make([]int64, 14), Ex: []int64{4, 0, 2, 0, -6}, H: []int{0, 0, 0, 0, 5}},
		{Res: slices.Repeat([]int64{math.MinInt64, math.MaxInt64}, 7), Ex: slices.Repeat([]int64{math.MaxInt64}, 5), H: []int{math.MinInt, 0, math.MaxInt, math.MinInt, 5}},
		{Res: slices.Repeat([]int64{1}, 14), Ex: slices.Repeat([]int64{1}, 5), H: []int{1, 0, 2, 1, 5}},
		{Res: []int64{0, 0, 0, 4, 0, 0, 0, 0, 5, 0, 3, 2, 1, 2}, Ex: []int64{6, 0, 2, 0, -8}, H: []int{0, 0, 0, 0, 5}},
		pre.Begin(c),
	}
	for _, count := range []int{c.N, len(c.First) - 1} {
		if 0 < count && count <= 1<<12 {
			p := api.Pre{Res: slices.Repeat([]int64{1}, len(c.Head)), Ex: slices.Repeat([]int64{3}, count), H: make([]int, count)}
			p.H[min(max(c.S, 0), count-1)] = c.N
			list = append(list, p)
		}
	}
	return list
}

// runAll runs from states of all kinds.
func runAll(c api.Csr) {
	for _, p := range states(c) {
		fifo.Run(c, p)
	}
}

// R1: Run returns, and does not panic, for states that are not valid: with a list that is too short, too long or missing, or with a number that does not belong there.
func TestWrongStates(t *testing.T) {
	for _, n := range []api.Net{example(), tangle(), line(2), line(2, arc(0, 1, 1<<62)), line(3, arc(0, 1, 5), arc(1, 2, 1))} {
		c := mustMake(t, n)
		runAll(c)
		for _, p := range []api.Pre{pre.Begin(c), mustEnd(t, c)} {
			for _, q := range []api.Pre{{Res: p.Res}, {Ex: p.Ex}, {H: p.H}, {Res: p.Res, Ex: p.Ex}, {Res: p.Res, H: p.H}, {Ex: p.Ex, H: p.H}} {
				fifo.Run(c, q)
			}
			for i := range max(len(p.Res), c.N) {
				for _, x := range []int{math.MinInt, -1, 0, 1, 2, c.N, 2*c.N - 1, 2 * c.N, math.MaxInt} {
					runAround(c, p, i, x)
				}
			}
		}
	}
}

// runAround runs from states that differ from p by one number, or end ahead of it.
func runAround(c api.Csr, p api.Pre, i, x int) {
	for field := range 6 {
		q := twin(p)
		switch {
		case field == 0 && i < len(q.Res):
			q.Res[i] = int64(x)
		case field == 1 && i < len(q.Ex):
			q.Ex[i] = int64(x)
		case field == 2 && i < len(q.H):
			q.H[i] = x
		case field == 3 && i < len(q.Res):
			q.Res = q.Res[:i]
		case field == 4 && i < len(q.Ex):
			q.Ex = q.Ex[:i]
		case field == 5 && i < len(q.H):
			q.H = q.H[:i]
		}
		fifo.Run(c, q)
	}
}

// R1: Run returns, and does not panic, for a residual network that csr.Make did not return: with a list that is too short, too long or missing, or with a number that does not belong there.
func TestWrongResidualNetworks(t *testing.T) {
	runAll(api.Csr{})
	runAll(api.Csr{N: math.MaxInt, S: -1, T: math.MinInt})
	for _, x := range []int{math.MinInt, -1, 0, 1, 4, 5, 6, 1 << 40, math.MaxInt} {
		for _, set := range []func(c *api.Csr){func(c *api.Csr) { c.N = x }, func(c *api.Csr) { c.S = x }, func(c *api.Csr) { c.T = x }} {
			c := mustMake(t, tangle())
			set(&c)
			runAll(c)
		}
		runAll(api.Csr{N: x})
		runAll(api.Csr{N: x, First: []int{0}})
		runAll(api.Csr{N: x, First: []int{0, 0}})
	}
	for field := range 4 {
		for at := range 14 {
			for _, x := range []int{math.MinInt, -1, 0, 3, 5, 13, 14, 15, 1 << 14, math.MaxInt} {
				c := clone(mustMake(t, tangle()))
				if list := [][]int{c.First, c.Head, c.Rev, c.Arc}[field]; at < len(list) {
					list[at] = x
					runAll(c)
				}
			}
		}
	}
	for _, x := range []int64{math.MinInt64, -1, math.MaxInt64} {
		c := clone(mustMake(t, tangle()))
		c.Cap[0], c.Cap[3] = x, x
		runAll(c)
	}
	wrongLengths(t)
}

// wrongLengths runs with one list that is too short or too long.
func wrongLengths(t *testing.T) {
	for _, length := range []int{0, 1, 5, 6, 7, 13, 15, 40} {
		for field := range 6 {
			c := clone(mustMake(t, tangle()))
			switch field {
			case 0:
				c.First = resized(c.First, length)
			case 1:
				c.Head = resized(c.Head, length)
			case 2:
				c.Rev = resized(c.Rev, length)
			case 3:
				c.Cap = resized(c.Cap, length)
			case 4:
				c.Arc = resized(c.Arc, length)
			case 5:
				c.Back = resized(c.Back, length)
			}
			runAll(c)
		}
	}
}

// resized is a list cut off, or filled up.
func resized[E any](list []E, length int) []E {
	all := make([]E, length)
	copy(all, list)
	return all
}

// R1: Run returns where a machine would go on for ever, as what it pushes does not arrive, or has nowhere to go.
func TestRunsWithoutEnd(t *testing.T) {
	// A residual arc from 1 to S that is its own reverse: nothing that is pushed along it leaves 1.
	own := api.Csr{N: 3, S: 0, T: 2, First: []int{0, 0, 1, 1}, Head: []int{0}, Rev: []int{0}, Cap: []int64{4}, Arc: []int{0}, Back: []bool{true}}
	fifo.Run(own, api.Pre{Res: []int64{9}, Ex: []int64{0, 5, 0}, H: []int{3, 4, 0}})
	// A vertex that has some excess, and no open residual arc.
	stuck := api.Csr{N: 3, S: 0, T: 2, First: []int{0, 0, 1, 2}, Head: []int{2, 1}, Rev: []int{1, 0}, Cap: []int64{-5, 5}, Arc: []int{0, 0}, Back: []bool{true, true}}
	fifo.Run(stuck, api.Pre{Res: []int64{0, 5}, Ex: []int64{0, 5, 0}, H: []int{3, 0, 0}})
	// A backward residual arc without a forward one.
	lone := api.Csr{N: 3, S: 0, T: 2, First: []int{0, 1, 2, 2}, Head: []int{1, 0}, Rev: []int{1, 0}, Cap: []int64{0, 0}, Arc: []int{0, 0}, Back: []bool{true, true}}
	fifo.Run(lone, api.Pre{Res: []int64{-3, 3}, Ex: []int64{-3, 3, 0}, H: []int{3, 0, 0}})
	fifo.Run(lone, api.Pre{Res: []int64{0, 3}, Ex: []int64{0, 3, 0}, H: []int{3, 0, 0}})
}
