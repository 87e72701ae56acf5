package csr_test

import (
	"math"
	"slices"
	"testing"

	"acequia/api"
	"acequia/csr"
)

// clone copies c without the package that is tested.
func clone(c api.Csr) api.Csr {
	c.First, c.Head, c.Rev = slices.Clone(c.First), slices.Clone(c.Head), slices.Clone(c.Rev)
	c.Cap, c.Arc, c.Back = slices.Clone(c.Cap), slices.Clone(c.Arc), slices.Clone(c.Back)
	return c
}

// scribble writes over a list, and over the spare room behind it.
func scribble[E any](list []E, with E) {
	list = list[:cap(list)]
	for i := range list {
		list[i] = with
	}
}

func scribbleAll(c api.Csr) {
	for _, list := range [][]int{c.First, c.Head, c.Rev, c.Arc} {
		scribble(list, -77)
	}
	scribble(c.Cap, -77)
	for i, b := range c.Back {
		c.Back[i] = !b
	}
}

// withSpare is a list in front of spare room that belongs to somebody else; the second result is all of it.
func withSpare[E any](list []E, spare E) ([]E, []E) {
	all := append(slices.Clone(list), spare, spare, spare)
	return all[:len(list)], all
}

// R3: Make does not change its argument, nor the spare room of its list, and its result does not change with its argument.
func TestMakeKeepsToItself(t *testing.T) {
	n := mixed()
	var all []api.Arc
	n.Arcs, all = withSpare(n.Arcs, arc(9, 9, 9))
	before := slices.Clone(all)
	c := mustMake(t, n)
	if !slices.Equal(all, before) {
		t.Error("Make has changed its argument")
	}
	scribble(all, arc(-1, -1, -1))
	if !same(c, wantMake(mixed())) {
		t.Error("the result changes with the argument")
	}
	copy(all, before)
	scribbleAll(c)
	if !slices.Equal(all, before) {
		t.Error("the argument changes with the result")
	}
}

// R3: no two lists of a residual network share memory; nor do those of two of them.
func TestListsAreApart(t *testing.T) {
	for i, write := range []func(c *api.Csr){
		func(c *api.Csr) { scribble(c.First, -77); c.First = wantMake(mixed()).First },
		func(c *api.Csr) { scribble(c.Head, -77); c.Head = wantMake(mixed()).Head },
		func(c *api.Csr) { scribble(c.Rev, -77); c.Rev = wantMake(mixed()).Rev },
		func(c *api.Csr) { scribble(c.Cap, -77); c.Cap = wantMake(mixed()).Cap },
		func(c *api.Csr) { scribble(c.Arc, -77); c.Arc = wantMake(mixed()).Arc },
		func(c *api.Csr) { scribble(c.Back, true); c.Back = wantMake(mixed()).Back },
	} {
		c, other := mustMake(t, mixed()), mustMake(t, mixed())
		write(&c)
		if !same(c, wantMake(mixed())) {
			t.Errorf("list %d shares memory with another one: %v", i, c)
		}
		if !same(other, wantMake(mixed())) {
			t.Errorf("list %d shares memory with one of another residual network", i)
		}
	}
}

// R3, R4: the calls on a residual network change none of their arguments; their results are new, and the same again.
func TestCallsKeepToThemselves(t *testing.T) {
	c := mustMake(t, mixed())
	f, allF := withSpare([]int64{3, 7, 1, 0, 4, 0, 2, 0}, 9)
	res, allRes := withSpare([]int64{3, 1, 0, 0, 4, 0, 2, 0, 3, 0, 1, 1}, 9)
	beforeF, beforeRes, wrong := slices.Clone(allF), slices.Clone(allRes), []int64{-1}
	for range 2 {
		csr.Len(c)
		csr.Tail(c, 3)
		forward := csr.Forward(c, 8)
		gotRes, _ := csr.Res(c, f)
		gotF, _ := csr.Flow(c, res, 8)
		csr.Res(c, wrong)
		csr.Flow(c, wrong, 8)
		if !slices.Equal(forward, []int{9, -1, 1, 11, 3, 5, 8, -1}) || !slices.Equal(gotRes, beforeRes[:12]) || !slices.Equal(gotF, []int64{3, 0, 1, 0, 4, 0, 2, 0}) {
			t.Errorf("the answers are %v, %v, %v", forward, gotRes, gotF)
		}
		scribble(forward, -77)
		scribble(gotRes, -77)
		scribble(gotF, -77)
		if !same(c, wantMake(mixed())) || !slices.Equal(allF, beforeF) || !slices.Equal(allRes, beforeRes) || wrong[0] != -1 {
			t.Errorf("an argument has changed: %v, %v, %v, %v", c, allF, allRes, wrong)
		}
	}
}

// R3: where nothing is sent, the residual capacities are the capacities, but not their memory.
func TestResOfNothingIsNew(t *testing.T) {
	c := mustMake(t, example())
	res, _ := csr.Res(c, make([]int64, 5))
	scribble(res, -77)
	if !same(c, wantMake(example())) {
		t.Error("Res shares memory with the residual network")
	}
}

// R3: the results do not change with the arguments.
func TestResultsAreNew(t *testing.T) {
	c, f := mustMake(t, example()), []int64{3, 0, 3, 0, 0}
	res, _ := csr.Res(c, f)
	wantRes := slices.Clone(res)
	back, _ := csr.Flow(c, wantRes, 5)
	forward := csr.Forward(c, 5)
	given := slices.Clone(wantRes)
	scribble(wantRes, -77)
	scribble(f, -77)
	scribbleAll(c)
	if !slices.Equal(res, given) || !slices.Equal(back, []int64{3, 0, 3, 0, 0}) || !slices.Equal(forward, []int{0, 1, 3, 6, 4}) {
		t.Errorf("the results are %v, %v, %v", res, back, forward)
	}
}

// callAll calls everything that takes a residual network, with arguments of all kinds.
func callAll(c api.Csr) {
	csr.Len(c)
	counts := []int{math.MinInt, -1, 0, 1, 4, 5, 8, 12, 1 << 14, 1<<14 + 1, math.MaxInt}
	lists := [][]int64{nil, {}, {0}, {3, 0, 3, 0, 0}, {math.MinInt64, math.MaxInt64}, make([]int64, 8), make([]int64, 12), make([]int64, 13), c.Cap, slices.Repeat([]int64{math.MaxInt64}, 12)}
	for a := -2; a < 14; a++ {
		csr.Tail(c, a)
	}
	for _, k := range counts {
		csr.Tail(c, k)
		csr.Forward(c, k)
		for _, l := range lists {
			csr.Flow(c, l, k)
		}
	}
	for _, l := range lists {
		csr.Res(c, l)
	}
}

// R1: no call panics for a residual network that Make did not return: with a list that is too short, too long or missing, or with a number that does not belong there.
func TestWrongResidualNetworks(t *testing.T) {
	callAll(api.Csr{})
	callAll(api.Csr{N: math.MaxInt, S: -1, T: math.MinInt})
	callAll(mustMake(t, mixed()))
	ints := func(c *api.Csr) []*[]int { return []*[]int{&c.First, &c.Head, &c.Rev, &c.Arc} }
	for field := range 6 {
		for _, length := range []int{0, 1, 11, 13, 40} {
			c := clone(mustMake(t, mixed()))
			switch field {
			case 4:
				c.Cap = resized(c.Cap, length)
			case 5:
				c.Back = resized(c.Back, length)
			default:
				list := ints(&c)[field]
				*list = resized(*list, length)
			}
			callAll(c)
		}
	}
	for field := range 4 {
		for at := range 6 {
			for _, x := range []int{math.MinInt, -1, 0, 3, 11, 12, 13, 1 << 14, math.MaxInt} {
				c := clone(mustMake(t, mixed()))
				(*ints(&c)[field])[at] = x
				callAll(c)
			}
		}
	}
	for at := range 12 {
		c := clone(mustMake(t, mixed()))
		c.Back[at] = !c.Back[at]
		callAll(c)
		for _, x := range []int64{math.MinInt64, -1, math.MaxInt64} {
			c.Cap[at] = x
			callAll(c)
		}
	}
}

// resized is the list, cut off or filled up with zeros.
func resized[E any](list []E, length int) []E {
	out := make([]E, length)
	copy(out, list)
	return out
}

// R1: Make does not panic for any network.
func TestMakeOfAnything(t *testing.T) {
	numbers := []int{math.MinInt, -1, 0, 1, 2, 1 << 12, math.MaxInt}
	caps := []int64{math.MinInt64, 0, 1 << 62, math.MaxInt64}
	for _, x := range numbers {
		for _, y := range numbers {
			for _, z := range numbers {
				for _, w := range caps {
					c, err := csr.Make(api.Net{N: x, S: y, T: z, Arcs: []api.Arc{arc(y, z, w), arc(z, y, 0), arc(0, 1, 0)}})
					if (err == api.OK) != (csr.Len(c) > 0) {
						t.Fatalf("N %d, S %d, T %d: the error is %d, and there are %d residual arcs", x, y, z, err, csr.Len(c))
					}
					callAll(c)
				}
			}
		}
	}
}
