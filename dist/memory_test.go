package dist_test

import (
	"math"
	"slices"
	"testing"

	"acequia/api"
	"acequia/csr"
	"acequia/dist"
)

// scribble writes over a list, and over the spare room behind it.
func scribble[E any](list []E, with E) {
	list = list[:cap(list)]
	for i := range list {
		list[i] = with
	}
}

// withSpare is a list in front of spare room that belongs to somebody else; the second result is all of it.
func withSpare[E any](list []E, spare E) ([]E, []E) {
	all := append(slices.Clone(list), spare, spare, spare)
	return all[:len(list)], all
}

// clone copies c.
func clone(c api.Csr) api.Csr {
	c.First, c.Head, c.Rev = slices.Clone(c.First), slices.Clone(c.Head), slices.Clone(c.Rev)
	c.Cap, c.Arc, c.Back = slices.Clone(c.Cap), slices.Clone(c.Arc), slices.Clone(c.Back)
	return c
}

// spacious is c with somebody else's memory behind each list, and all of these lists to their ends.
func spacious(c api.Csr) (api.Csr, api.Csr) {
	var all api.Csr
	c.First, all.First = withSpare(c.First, 9)
	c.Head, all.Head = withSpare(c.Head, 9)
	c.Rev, all.Rev = withSpare(c.Rev, 9)
	c.Cap, all.Cap = withSpare(c.Cap, 9)
	c.Arc, all.Arc = withSpare(c.Arc, 9)
	c.Back, all.Back = withSpare(c.Back, true)
	return c, all
}

func same(a, b api.Csr) bool {
	return a.N == b.N && a.S == b.S && a.T == b.T && slices.Equal(a.First, b.First) && slices.Equal(a.Head, b.Head) &&
		slices.Equal(a.Rev, b.Rev) && slices.Equal(a.Cap, b.Cap) && slices.Equal(a.Arc, b.Arc) && slices.Equal(a.Back, b.Back)
}

// scribbleAll writes over all lists of c, and over the spare room behind them.
func scribbleAll(c api.Csr) {
	for _, list := range [][]int{c.First, c.Head, c.Rev, c.Arc} {
		scribble(list, -77)
	}
	scribble(c.Cap, -77)
	scribble(c.Back, true)
}

// lists are all functions of the package, each with its answer as lists.
func lists() map[string]func(c api.Csr, res []int64, s, t int) [][]int {
	return map[string]func(c api.Csr, res []int64, s, t int) [][]int{
		"To":   func(c api.Csr, res []int64, s, t int) [][]int { return [][]int{dist.To(c, res, t)} },
		"From": func(c api.Csr, res []int64, s, t int) [][]int { return [][]int{dist.From(c, res, s)} },
		"Way":  func(c api.Csr, res []int64, s, t int) [][]int { w, _ := dist.Way(c, res, s, t); return [][]int{w} },
		"Rows": func(c api.Csr, res []int64, s, t int) [][]int { return dist.Rows(c, res, t) },
	}
}

// deep copies lists.
func deep(rows [][]int) [][]int {
	var all [][]int
	for _, row := range rows {
		all = append(all, slices.Clone(row))
	}
	return all
}

// R3: no call changes its arguments, nor the spare room of their lists, whether it finds anything or not; nor does what is written to its results.
func TestArgumentsAreNotChanged(t *testing.T) {
	c, all := spacious(mustMake(t, tangle()))
	before := clone(all)
	for _, f := range [][]int64{make([]int64, 9), {3, 8, 1, 0, 4, 0, 5, 1, 2}} {
		res, allRes := withSpare(mustRes(t, c, f...), 9)
		beforeRes := slices.Clone(allRes)
		for _, x := range []struct {
			res  []int64
			s, t int
		}{{res, 4, 1}, {res, 1, 4}, {res, 3, 1}, {res, 2, 2}, {res, -1, 5}, {res[:3], 4, 1}, {allRes, 4, 1}} {
			for name, call := range lists() {
				rows := call(c, x.res, x.s, x.t)
				for _, row := range rows {
					scribble(row, -77)
				}
				scribble(rows, []int{-77})
				if !same(all, before) || !slices.Equal(allRes, beforeRes) {
					t.Fatalf("%s has changed its arguments: %v, %v", name, all, allRes)
				}
			}
		}
	}
}

// R3, R4: what a call returns does not change with its arguments, nor with what another call has returned; the same call returns the same again.
func TestResultsAreNew(t *testing.T) {
	for name, call := range lists() {
		for _, ends := range [][2]int{{4, 1}, {1, 4}, {0, 2}, {3, 3}} {
			c := mustMake(t, tangle())
			res := mustRes(t, c, 1, 0, 1, 0, 1, 0, 1, 0, 1)
			first := call(c, res, ends[0], ends[1])
			want := deep(first)
			second := call(c, res, ends[0], ends[1])
			for _, row := range first {
				scribble(row, -77)
			}
			scribble(first, []int{-77})
			if !sameRows(second, want) {
				t.Errorf("%s of %v: two results share memory, or differ: %v, was %v", name, ends, second, want)
			}
			scribbleAll(c)
			scribble(res, -77)
			if !sameRows(second, want) {
				t.Errorf("%s of %v: the result changes with the arguments: %v, was %v", name, ends, second, want)
			}
		}
	}
}

// R3: no two lists of Rows share memory: writing over one, and over the room behind it, and appending to it, leaves the others as they are.
func TestRowsAreApart(t *testing.T) {
	for _, n := range []api.Net{tangle(), example(), large(), chain()} {
		c := mustMake(t, n)
		res := slices.Repeat([]int64{1}, csr.Len(c))
		rows := dist.Rows(c, res, n.T)
		want := deep(rows)
		for i := range rows {
			if i >= 50 {
				break
			}
			_ = append(rows[i], -77)
			scribble(rows[i], -77)
			want[i] = slices.Repeat([]int{-77}, len(want[i]))
			if !sameRows(rows, want) {
				t.Fatalf("N is %d: the list %d shares memory with another one", n.N, i)
			}
		}
	}
}

// callAll calls everything, with arguments of all kinds.
func callAll(c api.Csr) {
	vertices := []int{math.MinInt, -1, 0, 1, 4, 5, 6, 1 << 12, math.MaxInt}
	for _, res := range [][]int64{nil, {0}, {1, 1, 1}, make([]int64, 14), slices.Repeat([]int64{1}, 14), slices.Repeat([]int64{1}, len(c.Head)), c.Cap, slices.Repeat([]int64{math.MinInt64, math.MaxInt64}, 7)} {
		for _, s := range vertices {
			for _, t := range vertices {
				for _, call := range lists() {
					call(c, res, s, t)
				}
			}
		}
	}
}

// R1: every call returns, and none panics, for a residual network that csr.Make did not return: with a list that is too short, too long or missing, or with a number that does not belong there.
func TestWrongResidualNetworks(t *testing.T) {
	callAll(api.Csr{})
	callAll(api.Csr{N: math.MaxInt, S: -1, T: math.MinInt})
	for _, n := range []int{math.MinInt, -1, 0, 1, 4, 6, 1 << 40, math.MaxInt} {
		c := mustMake(t, tangle())
		c.N = n
		callAll(c)
		callAll(api.Csr{N: n})
		callAll(api.Csr{N: n, First: []int{0}})
		callAll(api.Csr{N: n, First: []int{0, 0}})
	}
	callAll(mustMake(t, tangle()))
	ints := func(c *api.Csr) []*[]int { return []*[]int{&c.First, &c.Head, &c.Rev, &c.Arc} }
	for field := range 4 {
		for _, length := range []int{0, 1, 5, 6, 7, 13, 15, 40} {
			c := clone(mustMake(t, tangle()))
			list := ints(&c)[field]
			resized := make([]int, length)
			copy(resized, *list)
			*list = resized
			callAll(c)
		}
		for at := range 6 {
			for _, x := range []int{math.MinInt, -1, 0, 3, 5, 13, 14, 15, 1 << 14, math.MaxInt} {
				c := clone(mustMake(t, tangle()))
				(*ints(&c)[field])[at] = x
				callAll(c)
			}
		}
	}
	for _, c := range []api.Csr{
		{N: 1, First: []int{0, 14}, Head: make([]int, 14), Rev: make([]int, 14)},                                           // each residual arc leads to where it begins
		{N: 2, First: []int{7, 7, 7}, Head: make([]int, 14), Rev: make([]int, 14)},                                         // no row holds any of them
		{N: 3, First: []int{0, 14, 0, 14}, Head: slices.Repeat([]int{2, 1}, 7), Rev: make([]int, 14)},                      // a row ends ahead of its beginning
		{N: 5, First: []int{0, 3, 6, 9, 12, 14}, Head: slices.Repeat([]int{4, 1}, 7), Rev: slices.Repeat([]int{0, 13}, 7)}, // reverses that do not lead back
	} {
		callAll(c)
	}
}

// R1: every call returns, and none panics, for residual networks that csr.Make returned, with any residual capacities and vertices.
func TestAnyArguments(t *testing.T) {
	for _, n := range []api.Net{example(), tangle(), {N: 2, T: 1}, {N: 2, S: 1, Arcs: []api.Arc{arc(1, 0, 1<<62)}}} {
		callAll(mustMake(t, n))
	}
}
