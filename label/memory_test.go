package label_test

import (
	"math"
	"slices"
	"testing"

	"acequia/api"
	"acequia/csr"
	"acequia/label"
)

// scribble writes over a list, and over the spare room behind it.
func scribble[E any](list []E, with E) {
	list = list[:cap(list)]
	for i := range list {
		list[i] = with
	}
}

// withSpare is a list in front of spare room that belongs to somebody else; the second result is all of it.
func withSpare[E any](list []E, spare E) ([]E, []E) {
	all := append(slices.Clone(list), spare, spare, spare)
	return all[:len(list)], all
}

// clone copies c.
func clone(c api.Csr) api.Csr {
	c.First, c.Head, c.Rev = slices.Clone(c.First), slices.Clone(c.Head), slices.Clone(c.Rev)
	c.Cap, c.Arc, c.Back = slices.Clone(c.Cap), slices.Clone(c.Arc), slices.Clone(c.Back)
	return c
}

// spacious is c with somebody else's memory behind each list, and all of these lists to their ends.
func spacious(c api.Csr) (api.Csr, api.Csr) {
	var all api.Csr
	c.First, all.First = withSpare(c.First, 9)
	c.Head, all.Head = withSpare(c.Head, 9)
	c.Rev, all.Rev = withSpare(c.Rev, 9)
	c.Cap, all.Cap = withSpare(c.Cap, 9)
	c.Arc, all.Arc = withSpare(c.Arc, 9)
	c.Back, all.Back = withSpare(c.Back, true)
	return c, all
}

func same(a, b api.Csr) bool {
	return a.N == b.N && a.S == b.S && a.T == b.T && slices.Equal(a.First, b.First) && slices.Equal(a.Head, b.Head) &&
		slices.Equal(a.Rev, b.Rev) && slices.Equal(a.Cap, b.Cap) && slices.Equal(a.Arc, b.Arc) && slices.Equal(a.Back, b.Back)
}

// scribbleAll writes over all lists of c, and over the spare room behind them.
func scribbleAll(c api.Csr) {
	for _, list := range [][]int{c.First, c.Head, c.Rev, c.Arc} {
		scribble(list, -77)
	}
	scribble(c.Cap, -77)
	scribble(c.Back, true)
}

// bit is 1 for true.
func bit(b bool) int {
	if b {
		return 1
	}
	return 0
}

// calls are all functions of the package, each with its answer as a list.
func calls() map[string]func(c api.Csr, res []int64, h []int, u int) []int {
	return map[string]func(c api.Csr, res []int64, h []int, u int) []int{
		"Right": func(c api.Csr, res []int64, h []int, u int) []int { return []int{bit(label.Right(c, h))} },
		"Steep": func(c api.Csr, res []int64, h []int, u int) []int { return label.Steep(c, res, h) },
		"Flat":  func(c api.Csr, res []int64, h []int, u int) []int { return label.Flat(c, res, h) },
		"Valid": func(c api.Csr, res []int64, h []int, u int) []int { return []int{bit(label.Valid(c, res, h))} },
		"Least": func(c api.Csr, res []int64, h []int, u int) []int {
			a, low, ok := label.Least(c, res, h, u)
			return []int{a, low, bit(ok)}
		},
		"Sum": func(c api.Csr, res []int64, h []int, u int) []int { return []int{label.Sum(c, h)} },
	}
}

// R3: no call changes its arguments, nor the spare room of their lists, whether it finds anything or not; nor does what is written to its results.
func TestArgumentsAreNotChanged(t *testing.T) {
	c, all := spacious(mustMake(t, tangle()))
	before := clone(all)
	for _, heights := range [][]int{{1, 0, 2, 5, 5}, {0, 0, 0, 0, 5}, {5, 0, 1, 3, 5}, {5, 1, 1, 3, 5}} {
		for _, numbers := range [][]int64{allOpen(c), make([]int64, 14)} {
			res, allRes := withSpare(numbers, 9)
			h, allH := withSpare(heights, 9)
			beforeRes, beforeH := slices.Clone(allRes), slices.Clone(allH)
			for _, x := range []struct {
				res []int64
				h   []int
				u   int
			}{{res, h, 0}, {res, h, 4}, {res, h, 3}, {res, h, -1}, {res, h, 5}, {res[:3], h, 0}, {allRes, h, 0}, {res, h[:3], 0}, {res, allH, 0}} {
				for name, call := range calls() {
					scribble(call(c, x.res, x.h, x.u), -77)
					if !same(all, before) || !slices.Equal(allRes, beforeRes) || !slices.Equal(allH, beforeH) {
						t.Fatalf("%s has changed its arguments: %v, %v, %v", name, all, allRes, allH)
					}
				}
			}
		}
	}
}

// R3, R4: what a call returns does not change with its arguments, nor with what another call has returned; the same call returns the same again.
func TestResultsAreNew(t *testing.T) {
	for name, call := range calls() {
		for _, heights := range [][]int{{1, 0, 2, 5, 5}, {1, 0, 1, 2, 5}, {5, 0, 5, 0, 5}} {
			c, h := mustMake(t, tangle()), slices.Clone(heights)
			res := allOpen(c)
			first := call(c, res, h, 2)
			want := slices.Clone(first)
			second := call(c, res, h, 2)
			scribble(first, -77)
			if !slices.Equal(second, want) {
				t.Errorf("%s of %v: two results share memory, or differ: %v, was %v", name, heights, second, want)
			}
			scribbleAll(c)
			scribble(res, -77)
			scribble(h, -77)
			if !slices.Equal(second, want) {
				t.Errorf("%s of %v: the result changes with the arguments: %v, was %v", name, heights, second, want)
			}
		}
	}
}

// callAll calls everything, with arguments of all kinds.
func callAll(c api.Csr) {
	heights := [][]int{nil, {0}, {1, 0, 2, 5, 5}, {5, 0, 5, 5, 5}, c.First, {math.MinInt, 0, math.MaxInt, -1, 5}}
	for _, count := range []int{c.N, len(c.First) - 1} {
		// Such that would be heights, if c were a residual network.
		if 0 < count && count <= 1<<12 {
			h := slices.Repeat([]int{c.N}, count)
			h[min(max(c.S, 0), count-1)], h[min(max(c.T, 0), count-1)] = c.N, 0
			heights = append(heights, h)
		}
	}
	for _, res := range [][]int64{nil, {0}, make([]int64, 14), slices.Repeat([]int64{1}, 14), slices.Repeat([]int64{1}, len(c.Head)), c.Cap, slices.Repeat([]int64{math.MinInt64, math.MaxInt64}, 7)} {
		for _, h := range heights {
			for _, u := range []int{math.MinInt, -1, 0, 1, 4, 5, 6, 1 << 12, math.MaxInt} {
				for _, call := range calls() {
					call(c, res, h, u)
				}
			}
		}
	}
}

// R1: every call returns, and none panics, for a residual network that csr.Make did not return: with a list that is too short, too long or missing, or with a number that does not belong there.
func TestWrongResidualNetworks(t *testing.T) {
	callAll(api.Csr{})
	callAll(api.Csr{N: math.MaxInt, S: -1, T: math.MinInt})
	for _, x := range []int{math.MinInt, -1, 0, 1, 4, 5, 6, 1 << 40, math.MaxInt} {
		for _, set := range []func(c *api.Csr){func(c *api.Csr) { c.N = x }, func(c *api.Csr) { c.S = x }, func(c *api.Csr) { c.T = x }} {
			c := mustMake(t, tangle())
			set(&c)
			callAll(c)
		}
		callAll(api.Csr{N: x})
		callAll(api.Csr{N: x, First: []int{0}})
		callAll(api.Csr{N: x, First: []int{0, 0}})
	}
	ints := func(c *api.Csr) []*[]int { return []*[]int{&c.First, &c.Head, &c.Rev, &c.Arc} }
	for field := range 4 {
		for _, length := range []int{0, 1, 5, 6, 7, 13, 15, 40} {
			c := clone(mustMake(t, tangle()))
			list := ints(&c)[field]
			resized := make([]int, length)
			copy(resized, *list)
			*list = resized
			callAll(c)
		}
		for at := range 6 {
			for _, x := range []int{math.MinInt, -1, 0, 3, 5, 13, 14, 15, 1 << 14, math.MaxInt} {
				c := clone(mustMake(t, tangle()))
				(*ints(&c)[field])[at] = x
				callAll(c)
			}
		}
	}
	for _, c := range []api.Csr{
		{N: 2, S: 1, First: []int{7, 7, 7}, Head: make([]int, 14), Rev: make([]int, 14)},                                         // no row holds any of them
		{N: 3, S: 1, First: []int{0, 14, 0, 14}, Head: slices.Repeat([]int{2, 1}, 7), Rev: make([]int, 14)},                      // a row ends ahead of its beginning
		{N: 5, S: 4, First: []int{0, 3, 6, 9, 12, 14}, Head: slices.Repeat([]int{4, 1}, 7), Rev: slices.Repeat([]int{0, 13}, 7)}, // reverses that do not lead back
	} {
		callAll(c)
	}
}

// R1: every call returns, and none panics, for residual networks that csr.Make returned, with any residual capacities, heights and vertices.
func TestAnyArguments(t *testing.T) {
	for _, n := range []api.Net{example(), fan(), tangle(), {N: 2, T: 1}, {N: 2, S: 1, Arcs: []api.Arc{arc(1, 0, 1<<62)}}} {
		c := mustMake(t, n)
		callAll(c)
		if csr.Len(c) > 0 && label.Valid(c, nil, nil) {
			t.Errorf("%v: nothing is valid", n)
		}
	}
}
