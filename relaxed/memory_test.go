package relaxed_test

import (
	"math"
	"slices"
	"testing"

	"acequia/api"
	"acequia/relaxed"
)

// scribble writes over a list, and over the spare room behind it.
func scribble[E any](list []E, with E) {
	list = list[:cap(list)]
	for i := range list {
		list[i] = with
	}
}

// withSpare is a list in front of spare room that belongs to somebody else; the second result is all of it.
func withSpare[E any](list []E, spare E) ([]E, []E) {
	all := append(slices.Clone(list), spare, spare, spare)
	return all[:len(list)], all
}

// clone copies c.
func clone(c api.Csr) api.Csr {
	c.First, c.Head, c.Rev = slices.Clone(c.First), slices.Clone(c.Head), slices.Clone(c.Rev)
	c.Cap, c.Arc, c.Back = slices.Clone(c.Cap), slices.Clone(c.Arc), slices.Clone(c.Back)
	return c
}

// spacious is c with somebody else's memory behind each list, and all of these lists to their ends.
func spacious(c api.Csr) (api.Csr, api.Csr) {
	var all api.Csr
	c.First, all.First = withSpare(c.First, 9)
	c.Head, all.Head = withSpare(c.Head, 9)
	c.Rev, all.Rev = withSpare(c.Rev, 9)
	c.Cap, all.Cap = withSpare(c.Cap, 9)
	c.Arc, all.Arc = withSpare(c.Arc, 9)
	c.Back, all.Back = withSpare(c.Back, true)
	return c, all
}

// roomy is p with somebody else's memory behind each list, and all of these lists to their ends.
func roomy(p api.Pre) (api.Pre, api.Pre) {
	var all api.Pre
	p.Res, all.Res = withSpare(p.Res, 9)
	p.Ex, all.Ex = withSpare(p.Ex, 9)
	p.H, all.H = withSpare(p.H, 9)
	return p, all
}

func same(a, b api.Csr) bool {
	return slices.Equal(a.First, b.First) && slices.Equal(a.Head, b.Head) && slices.Equal(a.Rev, b.Rev) &&
		slices.Equal(a.Cap, b.Cap) && slices.Equal(a.Arc, b.Arc) && slices.Equal(a.Back, b.Back)
}

// scribbleNet writes over all lists of c, and over the spare room behind them.
func scribbleNet(c api.Csr) {
	for _, list := range [][]int{c.First, c.Head, c.Rev, c.Arc} {
		scribble(list, -77)
	}
	scribble(c.Cap, -77)
	scribble(c.Back, true)
}

// scribbleState writes over all lists of p, and over the spare room behind them.
func scribbleState(p api.Pre) {
	scribble(p.Res, -77)
	scribble(p.Ex, -77)
	scribble(p.H, -77)
}

// lists are lists of moves from brim on: such as are made to the end, and such as are not, at first or later.
func lists(t *testing.T) [][]api.Event {
	c, p := brim(t)
	l, _ := tour(t, c, p)
	return [][]api.Event{nil, l[:1], l, {lift(0, 5)}, {lift(1, 2)}, {l[0], lift(1, 9)}, {l[0], l[1], push(2, 0, 1, 1, 0)}}
}

// moves are some from brim on, which are allowed, ErrPush and ErrArg.
func moves() []api.Event {
	return []api.Event{
		push(1, 3, 1, 2, 0), push(1, 2, 2, 2, 1), push(2, 7, 1, 8, 1), lift(1, 3), lift(1, 8),
		push(1, 3, 2, 2, 0), push(2, 6, 0, 8, 0), lift(2, 8), lift(1, 9),
		push(1, 5, 1, 2, 0), push(0, 0, 1, 4, 0), lift(3, 1), lift(-1, 1), {What: 7, U: 1, H: 3},
	}
}

// badStates are states with a list that is too short or too long, or with numbers that do not belong there, in the memory of p and of all.
func badStates(p, all api.Pre) []api.Pre {
	return []api.Pre{
		{}, {Res: p.Res[:3], Ex: p.Ex, H: p.H}, {Res: p.Res, Ex: all.Ex, H: p.H}, {Res: p.Res, Ex: p.Ex}, {Res: all.Res, Ex: p.Ex, H: p.H},
		{Res: p.Ex, Ex: p.Res, H: p.H}, {Res: p.Res, Ex: p.Res[:4], H: p.H}, {Res: p.Res, Ex: p.Ex, H: all.H[3:]},
	}
}

// R3: no call changes its arguments, nor the spare room of their lists, whether there is an error or not; nor does what is written to its results, but for p, which Move returns beside an error.
func TestArgumentsAreNotChanged(t *testing.T) {
	madeC, madeP := brim(t)
	c, allC := spacious(madeC)
	p, allP := roomy(madeP)
	beforeC, beforeP := clone(allC), twin(allP)
	for _, q := range append(badStates(p, allP), p) {
		relaxed.Right(c, q)
		for _, e := range moves() {
			relaxed.Legal(c, q, e)
			relaxed.Strict(c, q, e)
			if r, err := relaxed.Move(c, q, e); err == api.OK {
				scribbleState(r)
			}
			if !same(allC, beforeC) || !equal(allP, beforeP) {
				t.Fatalf("%+v has changed the arguments: %v, %v", e, allC, allP)
			}
		}
		for _, l := range lists(t) {
			l, allL := withSpare(l, lift(9, 9))
			beforeL := slices.Clone(allL)
			r, _, _ := relaxed.Run(c, q, l)
			scribbleState(r)
			if !same(allC, beforeC) || !equal(allP, beforeP) || !slices.Equal(allL, beforeL) {
				t.Fatalf("Run of %v has changed its arguments: %v, %v, %v", l, allC, allP, allL)
			}
		}
	}
}

// checkNew checks that what a call returns does not change with its arguments, nor with what another call has returned, and that its lists are apart.
func checkNew(t *testing.T, name string, call func(c api.Csr, p api.Pre) (api.Pre, int, api.Errno)) {
	t.Helper()
	c, p := brim(t)
	first, k, err := call(c, p)
	want := twin(first)
	second, k2, err2 := call(c, p)
	scribble(first.Res, -77)
	if !slices.Equal(first.Ex, want.Ex) || !slices.Equal(first.H, want.H) {
		t.Errorf("%s: the lists of a state share memory: %v, was %v", name, first, want)
	}
	scribble(first.Ex, -77)
	if !slices.Equal(first.H, want.H) || !slices.Equal(first.Res, slices.Repeat([]int64{-77}, len(want.Res))) {
		t.Errorf("%s: the lists of a state share memory: %v, was %v", name, first, want)
	}
	scribble(first.H, -77)
	scribbleNet(c)
	scribbleState(p)
	if !equal(second, want) || k != k2 || err != err2 {
		t.Errorf("%s: two results share memory, or differ: %v, %d, %d, was %v, %d, %d", name, second, k2, err2, want, k, err)
	}
}

// R3, R4: the states that Move and Run return are new, those of Run also when nothing is moved.
func TestStatesAreNew(t *testing.T) {
	some := 0
	for _, e := range moves() {
		c, p := brim(t)
		if wantLegal(c, p, e) != api.OK {
			continue
		}
		some++
		checkNew(t, "Move", func(c api.Csr, p api.Pre) (api.Pre, int, api.Errno) {
			q, err := relaxed.Move(c, p, e)
			return q, 0, err
		})
	}
	for _, l := range lists(t) {
		checkNew(t, "Run", func(c api.Csr, p api.Pre) (api.Pre, int, api.Errno) { return relaxed.Run(c, p, slices.Clone(l)) })
	}
	if some < 5 {
		t.Errorf("only %d moves are allowed", some)
	}
}

// R3: what Run returns does not change with the list of moves.
func TestMovesAreNotKept(t *testing.T) {
	for _, l := range lists(t) {
		c, p := brim(t)
		l = slices.Clone(l)
		q, k, err := relaxed.Run(c, p, l)
		want := twin(q)
		scribble(l, lift(1, 7))
		if !equal(q, want) {
			t.Errorf("Run is %v, %d, %d, was %v", q, k, err, want)
		}
	}
}

// R4: the same calls return the same, in whichever order they are made.
func TestCallsDoNotMatterToEachOther(t *testing.T) {
	c, p := brim(t)
	once := moves()
	twice := append(moves(), moves()...)
	slices.Reverse(twice)
	for _, e := range append(once, twice...) {
		checkMove(t, "again", c, p, e, wantLegal(c, p, e))
		checkStrict(t, "again", c, p, e, wantStrict(c, p, e))
		checkRight(t, "again", c, p, true)
	}
}

// states are some for c, such that would be sound, if c were a residual network, and such that would not.
func states(c api.Csr) []api.Pre {
	list := []api.Pre{
		{},
		{Res: []int64{0}, Ex: []int64{0}, H: []int{0}},
		{Res: slices.Clone(c.Cap), Ex: make([]int64, 5), H: []int{0, 0, 0, 0, 5}},
		{Res: make([]int64, 14), Ex: []int64{4, 0, 2, 0, -6}, H: []int{0, 0, 0, 0, 5}},
		{Res: slices.Repeat([]int64{math.MinInt64, math.MaxInt64}, 7), Ex: slices.Repeat([]int64{math.MaxInt64}, 5), H: []int{math.MinInt, 0, math.MaxInt, math.MinInt, 5}},
		{Res: slices.Repeat([]int64{1}, 14), Ex: slices.Repeat([]int64{math.MinInt64}, 5), H: []int{1, 0, 2, 1, 5}},
		{Res: slices.Repeat([]int64{1}, 14), Ex: slices.Repeat([]int64{1}, 5), H: []int{1, 0, 2, 1, 5}},
		{Res: []int64{0, 2, 0, 4, 0, 0, 0, 0, 5, 0, 3, 0, 1, 2}, Ex: []int64{4, 0, 2, 0, -6}, H: []int{0, 0, 0, 0, 5}},
	}
	for _, count := range []int{c.N, len(c.First) - 1} {
		if 0 < count && count <= 1<<12 {
			p := api.Pre{Res: slices.Repeat([]int64{1}, len(c.Head)), Ex: slices.Repeat([]int64{3}, count), H: make([]int, count)}
			p.H[min(max(c.S, 0), count-1)] = c.N
			list = append(list, p)
		}
	}
	return list
}

// anyMoves are moves with numbers of all kinds, such that are close to being allowed in states among them.
func anyMoves() []api.Event {
	l := []api.Event{{}, {What: 255, U: math.MinInt, Arc: math.MaxInt, D: math.MinInt64, H: math.MaxInt, Low: math.MinInt}}
	for _, u := range []int{math.MinInt, -1, 0, 1, 2, 3, 4, 5, 1 << 12, math.MaxInt} {
		for _, a := range []int{math.MinInt, -1, 0, 1, 2, 3, 5, 8, 9, 13, 14, math.MaxInt} {
			l = append(l, push(u, a, 1, 0, -1), push(u, a, 1, 1, 0))
		}
		l = append(l, push(u, 0, math.MaxInt64, math.MaxInt, 0), push(u, 2, math.MinInt64, math.MinInt, math.MinInt))
		for _, h := range []int{math.MinInt, 0, 1, 2, 6, 10, math.MaxInt} {
			l = append(l, lift(u, h))
		}
	}
	return l
}

// callAll calls everything, with arguments of all kinds.
func callAll(c api.Csr) {
	l := anyMoves()
	for _, p := range states(c) {
		relaxed.Right(c, p)
		for _, e := range l {
			relaxed.Legal(c, p, e)
			relaxed.Move(c, p, e)
			relaxed.Strict(c, p, e)
			relaxed.Run(c, p, []api.Event{e, e})
		}
		relaxed.Run(c, p, l)
		relaxed.Run(c, p, nil)
	}
}

// R1: every call returns, and none panics, for residual networks that csr.Make returned, with any state and any moves.
func TestAnyArguments(t *testing.T) {
	for _, n := range []api.Net{way(), example(), tangle(), {N: 2, T: 1}, {N: 2, S: 1, Arcs: []api.Arc{arc(1, 0, 1<<62)}}} {
		c := mustMake(t, n)
		callAll(c)
		for i := range 14 {
			for _, x := range []int{math.MinInt, -1, 1, 2, c.N, 2 * c.N, math.MaxInt} {
				callAround(c, i, x)
			}
		}
	}
}

// callAround calls everything with a state that has one number that does not belong there.
func callAround(c api.Csr, i, x int) {
	for field := range 3 {
		p := api.Pre{Res: slices.Repeat([]int64{2}, len(c.Head)), Ex: slices.Repeat([]int64{2}, c.N), H: make([]int, c.N)}
		switch {
		case field == 0 && i < len(p.Res):
			p.Res[i] = int64(x)
		case field == 1 && i < len(p.Ex):
			p.Ex[i] = int64(x)
		case field == 2 && i < len(p.H):
			p.H[i] = x
		}
		relaxed.Right(c, p)
		for _, e := range []api.Event{push(1, 2, 1, 0, -1), push(0, 1, 2, 0, -1), push(2, 8, 1, 0, -1), push(1, 3, math.MaxInt64, 0, -1), push(1, 2, 1, x, -1), lift(1, 1), lift(0, x), lift(2, 3)} {
			relaxed.Legal(c, p, e)
			relaxed.Move(c, p, e)
			relaxed.Strict(c, p, e)
			relaxed.Run(c, p, []api.Event{e, e, e})
		}
	}
}

// R1: every call returns, and none panics, for a residual network that csr.Make did not return: with a list that is too short, too long or missing, or with a number that does not belong there.
func TestWrongResidualNetworks(t *testing.T) {
	callAll(api.Csr{})
	callAll(api.Csr{N: math.MaxInt, S: -1, T: math.MinInt})
	for _, x := range []int{math.MinInt, -1, 0, 1, 4, 5, 6, 1 << 40, math.MaxInt} {
		for _, set := range []func(c *api.Csr){func(c *api.Csr) { c.N = x }, func(c *api.Csr) { c.S = x }, func(c *api.Csr) { c.T = x }} {
			c := mustMake(t, tangle())
			set(&c)
			callAll(c)
		}
		callAll(api.Csr{N: x})
		callAll(api.Csr{N: x, First: []int{0}})
		callAll(api.Csr{N: x, First: []int{0, 0}})
	}
	wrongNumbers(t)
	wrongLengths(t)
	for _, c := range []api.Csr{
		{N: 2, S: 1, First: []int{7, 7, 7}},                    // no row holds any of them
		{N: 3, S: 1, First: []int{0, 14, 0, 14}},               // a row ends ahead of its beginning
		{N: 5, S: 4, First: []int{0, 3, 6, 9, 12, 14}},         // reverses that are not their own
		{N: 5, S: 4, T: 4, First: []int{0, 3, 6, 9, 12, 14}},   // S is T
		{N: 5, S: -1, T: 9, First: []int{0, 14, 14, 0, 0, 14}}, // neither S nor T
		{N: 5, S: 4, First: []int{math.MinInt, math.MaxInt, math.MinInt, math.MaxInt, -1, math.MaxInt}},
	} {
		c.Head, c.Rev = slices.Repeat([]int{c.N - 1, 1}, 7), slices.Repeat([]int{0, 13}, 7)
		c.Cap, c.Arc, c.Back = slices.Repeat([]int64{math.MaxInt64}, 14), slices.Repeat([]int{math.MaxInt, 0}, 7), make([]bool, 14)
		callAll(c)
	}
}

// wrongNumbers calls everything with one number that does not belong there.
func wrongNumbers(t *testing.T) {
	for field := range 4 {
		for at := range 14 {
			for _, x := range []int{math.MinInt, -1, 0, 3, 5, 13, 14, 15, 1 << 14, math.MaxInt} {
				c := clone(mustMake(t, tangle()))
				if list := [][]int{c.First, c.Head, c.Rev, c.Arc}[field]; at < len(list) {
					list[at] = x
					callAll(c)
				}
			}
		}
	}
	for _, x := range []int64{math.MinInt64, -1, math.MaxInt64} {
		c := clone(mustMake(t, tangle()))
		c.Cap[0], c.Cap[3] = x, x
		callAll(c)
	}
}

// wrongLengths calls everything with one list that is too short or too long.
func wrongLengths(t *testing.T) {
	for _, length := range []int{0, 1, 5, 6, 7, 13, 15, 40} {
		for field := range 6 {
			c := clone(mustMake(t, tangle()))
			switch field {
			case 0:
				c.First = resized(c.First, length)
			case 1:
				c.Head = resized(c.Head, length)
			case 2:
				c.Rev = resized(c.Rev, length)
			case 3:
				c.Cap = resized(c.Cap, length)
			case 4:
				c.Arc = resized(c.Arc, length)
			case 5:
				c.Back = resized(c.Back, length)
			}
			callAll(c)
		}
	}
}

// resized is a list cut off, or filled up.
func resized[E any](list []E, length int) []E {
	all := make([]E, length)
	copy(all, list)
	return all
}
