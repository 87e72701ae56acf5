package pre_test

import (
	"math"
	"slices"
	"testing"

	"acequia/api"
	"acequia/csr"
	"acequia/pre"
)

// scribble writes over a list, and over the spare room behind it.
func scribble[E any](list []E, with E) {
	list = list[:cap(list)]
	for i := range list {
		list[i] = with
	}
}

// withSpare is a list in front of spare room that belongs to somebody else; the second result is all of it.
func withSpare[E any](list []E, spare E) ([]E, []E) {
	all := append(slices.Clone(list), spare, spare, spare)
	return all[:len(list)], all
}

// clone copies c.
func clone(c api.Csr) api.Csr {
	c.First, c.Head, c.Rev = slices.Clone(c.First), slices.Clone(c.Head), slices.Clone(c.Rev)
	c.Cap, c.Arc, c.Back = slices.Clone(c.Cap), slices.Clone(c.Arc), slices.Clone(c.Back)
	return c
}

// twin copies p, without the package's help.
func twin(p api.Pre) api.Pre {
	return api.Pre{Res: slices.Clone(p.Res), Ex: slices.Clone(p.Ex), H: slices.Clone(p.H)}
}

// spacious is c with somebody else's memory behind each list, and all of these lists to their ends.
func spacious(c api.Csr) (api.Csr, api.Csr) {
	var all api.Csr
	c.First, all.First = withSpare(c.First, 9)
	c.Head, all.Head = withSpare(c.Head, 9)
	c.Rev, all.Rev = withSpare(c.Rev, 9)
	c.Cap, all.Cap = withSpare(c.Cap, 9)
	c.Arc, all.Arc = withSpare(c.Arc, 9)
	c.Back, all.Back = withSpare(c.Back, true)
	return c, all
}

// roomy is p with somebody else's memory behind each list, and all of these lists to their ends.
func roomy(p api.Pre) (api.Pre, api.Pre) {
	var all api.Pre
	p.Res, all.Res = withSpare(p.Res, 9)
	p.Ex, all.Ex = withSpare(p.Ex, 9)
	p.H, all.H = withSpare(p.H, 9)
	return p, all
}

func same(a, b api.Csr) bool {
	return slices.Equal(a.First, b.First) && slices.Equal(a.Head, b.Head) && slices.Equal(a.Rev, b.Rev) &&
		slices.Equal(a.Cap, b.Cap) && slices.Equal(a.Arc, b.Arc) && slices.Equal(a.Back, b.Back)
}

// scribbleNet writes over all lists of c, and over the spare room behind them.
func scribbleNet(c api.Csr) {
	for _, list := range [][]int{c.First, c.Head, c.Rev, c.Arc} {
		scribble(list, -77)
	}
	scribble(c.Cap, -77)
	scribble(c.Back, true)
}

// scribbleState writes over all lists of p, and over the spare room behind them.
func scribbleState(p api.Pre) {
	scribble(p.Res, -77)
	scribble(p.Ex, -77)
	scribble(p.H, -77)
}

// result is whatever a call returns.
type result struct {
	p         api.Pre
	one, more []int
	d         int64
	err       api.Errno
	ok        bool
}

func (r result) equals(s result) bool {
	return equal(r.p, s.p) && slices.Equal(r.one, s.one) && slices.Equal(r.more, s.more) && r.d == s.d && r.err == s.err && r.ok == s.ok
}

func (r result) copy() result {
	r.p, r.one, r.more = twin(r.p), slices.Clone(r.one), slices.Clone(r.more)
	return r
}

// writes are what writes over one of the lists of a result each.
func (r result) writes() []func() {
	return []func(){
		func() { scribble(r.p.Res, -77) },
		func() { scribble(r.p.Ex, -77) },
		func() { scribble(r.p.H, -77) },
		func() { scribble(r.one, -77) },
		func() { scribble(r.more, -77) },
	}
}

// withoutList is r without the list that so many ones are ahead of.
func (r result) withoutList(i int) result {
	switch i {
	case 0:
		r.p.Res = nil
	case 1:
		r.p.Ex = nil
	case 2:
		r.p.H = nil
	case 3:
		r.one = nil
	case 4:
		r.more = nil
	}
	return r
}

// calls are all functions of the package; x is the residual arc, or the vertex.
func calls() map[string]func(c api.Csr, p api.Pre, x int) result {
	return map[string]func(c api.Csr, p api.Pre, x int) result{
		"Begin":  func(c api.Csr, p api.Pre, x int) result { return result{p: pre.Begin(c)} },
		"Right":  func(c api.Csr, p api.Pre, x int) result { return result{ok: pre.Right(c, p)} },
		"Copy":   func(c api.Csr, p api.Pre, x int) result { return result{p: pre.Copy(p)} },
		"Active": func(c api.Csr, p api.Pre, x int) result { return result{one: pre.Active(c, p)} },
		"Push": func(c api.Csr, p api.Pre, x int) result {
			q, d, err := pre.Push(c, p, x)
			return result{p: q, d: d, err: err}
		},
		"Lift": func(c api.Csr, p api.Pre, x int) result {
			q, err := pre.Lift(c, p, x)
			return result{p: q, err: err}
		},
		"May": func(c api.Csr, p api.Pre, x int) result {
			pushes, lifts := pre.May(c, p)
			return result{one: pushes, more: lifts}
		},
	}
}

// sample is a network with a state in which all calls have something to return: 5 may be pushed along, 1 and 3 may be lifted.
func sample(t *testing.T) (api.Csr, api.Pre) {
	n := api.Net{N: 5, S: 0, T: 4, Arcs: []api.Arc{arc(0, 1, 5), arc(0, 2, 4), arc(2, 3, 3), arc(3, 4, 6), arc(1, 4, 2)}}
	c := mustMake(t, n)
	p := state(t, n, c, []int64{5, 4, 1, 0, 0}, []int{5, 0, 1, 0, 0})
	if pushes, lifts := pre.May(c, p); !pre.Right(c, p) || !slices.Equal(pushes, []int{5}) || !slices.Equal(lifts, []int{1, 3}) {
		t.Fatalf("%v may be pushed along, %v lifted", pushes, lifts)
	}
	return c, p
}

// R3: no call changes its arguments, nor the spare room of their lists, whether it is refused or not; nor does what is written to its results.
func TestArgumentsAreNotChanged(t *testing.T) {
	madeC, madeP := sample(t)
	c, allC := spacious(madeC)
	p, allP := roomy(madeP)
	beforeC, beforeP := clone(allC), twin(allP)
	for _, q := range []api.Pre{p, {Res: p.Res[:3], Ex: p.Ex, H: p.H}, {Res: p.Res, Ex: allP.Ex, H: p.H}, {Res: p.Res, Ex: p.Ex}, {}} {
		for x := -1; x <= csr.Len(c); x++ {
			for name, call := range calls() {
				for _, write := range call(c, q, x).writes() {
					write()
				}
				if !same(allC, beforeC) || !equal(allP, beforeP) {
					t.Fatalf("%s of %d has changed its arguments: %v, %v", name, x, allC, allP)
				}
			}
		}
	}
}

// R3, R4: what a call returns does not change with its arguments, nor with what another call has returned; the same call returns the same again.
func TestResultsAreNew(t *testing.T) {
	some := 0
	for name, call := range calls() {
		for x := -1; x < 11; x++ {
			c, p := sample(t)
			first := call(c, p, x)
			want := first.copy()
			second := call(c, p, x)
			for _, write := range first.writes() {
				write()
			}
			if !second.equals(want) {
				t.Errorf("%s of %d: two results share memory, or differ: %v, was %v", name, x, second, want)
			}
			scribbleNet(c)
			scribbleState(p)
			if !second.equals(want) {
				t.Errorf("%s of %d: the result changes with the arguments: %v, was %v", name, x, second, want)
			}
			if len(want.p.H) > 0 || len(want.one) > 0 {
				some++
			}
		}
	}
	if some < 4*12+2 {
		t.Errorf("only %d calls have returned a list", some)
	}
}

// R3: the lists of one result share no memory with each other.
func TestListsAreApart(t *testing.T) {
	for name, call := range calls() {
		for x := range 11 {
			for i := range 5 {
				c, p := sample(t)
				r := call(c, p, x)
				want := r.copy().withoutList(i)
				r.writes()[i]()
				if !r.withoutList(i).equals(want) {
					t.Errorf("%s of %d: with list %d written to, the others are %v, want %v", name, x, i, r, want)
				}
			}
		}
	}
}

// states are some for c, such that would be valid, if c were a residual network, and such that would not.
func states(c api.Csr) []api.Pre {
	list := []api.Pre{
		{},
		{Res: []int64{0}, Ex: []int64{0}, H: []int{0}},
		{Res: slices.Clone(c.Cap), Ex: make([]int64, 5), H: []int{0, 0, 0, 0, 5}},
		{Res: make([]int64, 14), Ex: []int64{4, 0, 2, 0, -6}, H: []int{0, 0, 0, 0, 5}},
		{Res: slices.Repeat([]int64{math.MinInt64, math.MaxInt64}, 7), Ex: slices.Repeat([]int64{math.MaxInt64}, 5), H: []int{math.MinInt, 0, math.MaxInt, math.MinInt, 5}},
		{Res: slices.Repeat([]int64{1}, 14), Ex: slices.Repeat([]int64{math.MinInt64}, 5), H: []int{1, 0, 2, 1, 5}},
		{Res: slices.Repeat([]int64{1}, 14), Ex: slices.Repeat([]int64{1}, 5), H: []int{1, 0, 2, 1, 5}},
		{Res: slices.Repeat([]int64{1}, 14), Ex: slices.Repeat([]int64{1}, 5), H: []int{4, 0, 1, 3, 5}},
		pre.Begin(c),
	}
	for _, count := range []int{c.N, len(c.First) - 1} {
		if 0 < count && count <= 1<<12 {
			p := api.Pre{Res: slices.Repeat([]int64{1}, len(c.Head)), Ex: slices.Repeat([]int64{3}, count), H: make([]int, count)}
			p.H[min(max(c.S, 0), count-1)] = c.N
			list = append(list, p)
		}
	}
	return list
}

// callAll calls everything, with arguments of all kinds.
func callAll(c api.Csr) {
	for _, p := range states(c) {
		for _, x := range []int{math.MinInt, -1, 0, 1, 2, 3, 4, 5, 6, 8, 12, 13, 14, 1 << 12, math.MaxInt} {
			for _, call := range calls() {
				call(c, p, x)
			}
		}
	}
}

// R1: every call returns, and none panics, for a residual network that csr.Make did not return: with a list that is too short, too long or missing, or with a number that does not belong there.
func TestWrongResidualNetworks(t *testing.T) {
	callAll(api.Csr{})
	callAll(api.Csr{N: math.MaxInt, S: -1, T: math.MinInt})
	for _, x := range []int{math.MinInt, -1, 0, 1, 4, 5, 6, 1 << 40, math.MaxInt} {
		for _, set := range []func(c *api.Csr){func(c *api.Csr) { c.N = x }, func(c *api.Csr) { c.S = x }, func(c *api.Csr) { c.T = x }} {
			c := mustMake(t, tangle())
			set(&c)
			callAll(c)
		}
		callAll(api.Csr{N: x})
		callAll(api.Csr{N: x, First: []int{0}})
		callAll(api.Csr{N: x, First: []int{0, 0}})
	}
	wrongNumbers(t)
	wrongLengths(t)
	for _, c := range []api.Csr{
		{N: 2, S: 1, First: []int{7, 7, 7}},                  // no row holds any of them
		{N: 3, S: 1, First: []int{0, 14, 0, 14}},             // a row ends ahead of its beginning
		{N: 5, S: 4, First: []int{0, 3, 6, 9, 12, 14}},       // reverses that are not their own
		{N: 5, S: 4, T: 4, First: []int{0, 3, 6, 9, 12, 14}}, // S is T
	} {
		c.Head, c.Rev = slices.Repeat([]int{c.N - 1, 1}, 7), slices.Repeat([]int{0, 13}, 7)
		c.Cap, c.Arc, c.Back = slices.Repeat([]int64{math.MaxInt64}, 14), slices.Repeat([]int{math.MaxInt, 0}, 7), make([]bool, 14)
		callAll(c)
	}
}

// wrongNumbers calls everything with one number that does not belong there.
func wrongNumbers(t *testing.T) {
	for field := range 4 {
		for at := range 14 {
			for _, x := range []int{math.MinInt, -1, 0, 3, 5, 13, 14, 15, 1 << 14, math.MaxInt} {
				c := clone(mustMake(t, tangle()))
				if list := [][]int{c.First, c.Head, c.Rev, c.Arc}[field]; at < len(list) {
					list[at] = x
					callAll(c)
				}
			}
		}
	}
	for _, x := range []int64{math.MinInt64, -1, math.MaxInt64} {
		c := clone(mustMake(t, tangle()))
		c.Cap[0], c.Cap[3] = x, x
		callAll(c)
	}
}

// wrongLengths calls everything with one list that is too short or too long.
func wrongLengths(t *testing.T) {
	for _, length := range []int{0, 1, 5, 6, 7, 13, 15, 40} {
		for field := range 6 {
			c := clone(mustMake(t, tangle()))
			switch field {
			case 0:
				c.First = resized(c.First, length)
			case 1:
				c.Head = resized(c.Head, length)
			case 2:
				c.Rev = resized(c.Rev, length)
			case 3:
				c.Cap = resized(c.Cap, length)
			case 4:
				c.Arc = resized(c.Arc, length)
			case 5:
				c.Back = resized(c.Back, length)
			}
			callAll(c)
		}
	}
}

// resized is a list cut off, or filled up.
func resized[E any](list []E, length int) []E {
	all := make([]E, length)
	copy(all, list)
	return all
}

// R1: every call returns, and none panics, for residual networks that csr.Make returned, with any state, residual arc and vertex.
func TestAnyArguments(t *testing.T) {
	for _, n := range []api.Net{example(), line(), fan(), tangle(), {N: 2, T: 1}, {N: 2, S: 1, Arcs: []api.Arc{arc(1, 0, 1<<62)}}} {
		callAll(mustMake(t, n))
	}
}

// R2: a state that does not fit is refused, and nothing is returned beside the error.
func TestStatesThatDoNotFit(t *testing.T) {
	c, p := sample(t)
	for _, q := range []api.Pre{
		{}, {Res: p.Res, Ex: p.Ex}, {Res: p.Res, H: p.H}, {Ex: p.Ex, H: p.H},
		{Res: p.Res[:9], Ex: p.Ex, H: p.H}, {Res: p.Res, Ex: p.Ex[:4], H: p.H}, {Res: p.Res, Ex: p.Ex, H: p.H[:4]},
	} {
		for x := range 11 {
			if r, d, err := pre.Push(c, q, x); !isZero(r) || d != 0 || err == api.OK {
				t.Errorf("%v: Push along %d is %v, %d, %d", q, x, r, d, err)
			}
			if r, err := pre.Lift(c, q, x); !isZero(r) || err == api.OK {
				t.Errorf("%v: Lift of %d is %v, %d", q, x, r, err)
			}
		}
	}
}
