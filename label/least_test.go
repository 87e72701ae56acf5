package label_test

import (
	"math"
	"slices"
	"testing"

	"acequia/api"
	"acequia/label"
)

// P6.2: of several open ends the lowest counts; of equally low ones the first; u may be S, and T.
func TestLeast(t *testing.T) {
	wide, many := mustMake(t, fan()), mustMake(t, tangle())
	for _, x := range []struct {
		name string
		c    api.Csr
		res  []int64
		h    []int
		u    int
		a    int
		low  int
		ok   bool
	}{
		{"the last is the lowest", wide, []int64{1, 1, 1, 1, 1, 1, 1, 1}, []int{5, 1, 2, 1, 0}, 1, 4, 0, true},
		{"all equally low, but S", wide, []int64{1, 1, 1, 1, 1, 1, 1, 1}, []int{5, 1, 0, 0, 0}, 1, 2, 0, true},
		{"two equally low", wide, []int64{1, 1, 1, 1, 0, 1, 1, 1}, []int{5, 1, 3, 3, 0}, 1, 2, 3, true},
		{"all as high as S", wide, []int64{1, 1, 1, 1, 0, 1, 1, 1}, []int{5, 1, 5, 5, 0}, 1, 1, 5, true},
		{"the first of two equally low ones is closed", wide, []int64{1, 1, 0, 1, 0, 1, 1, 1}, []int{5, 1, 3, 3, 0}, 1, 3, 3, true},
		{"the lowest is closed", wide, []int64{0, 0, 4, 4, 0, 0, 0, 0}, []int{5, 0, 3, 2, 0}, 1, 3, 2, true},
		{"the lowest is negative", wide, []int64{0, 4, 4, 4, -4, 0, 0, 0}, []int{5, 0, 4, 4, 0}, 1, 2, 4, true},
		{"an end that is higher", wide, []int64{0, 0, 4, 0, 0, 0, 0, 0}, []int{5, 0, 5, 0, 0}, 1, 2, 5, true},
		{"back to S alone", wide, []int64{0, 4, 0, 0, 0, 0, 0, 0}, []int{5, 0, 0, 0, 0}, 1, 1, 5, true},
		{"nothing open", wide, []int64{9, 0, 0, 0, 0, 9, 9, 9}, []int{5, 0, 0, 0, 0}, 1, 0, 0, false},
		{"nothing above 0", wide, []int64{9, -1, math.MinInt64, 0, -9, 9, 9, 9}, []int{5, 0, 0, 0, 0}, 1, 0, 0, false},
		{"of S", wide, []int64{1, 0, 0, 0, 0, 0, 0, 0}, []int{5, 4, 0, 0, 0}, 0, 0, 4, true},
		{"of S, with nothing open", wide, []int64{0, 1, 1, 1, 1, 1, 1, 1}, []int{5, 4, 0, 0, 0}, 0, 0, 0, false},
		{"of T", wide, []int64{0, 0, 0, 0, 0, 0, 0, 1}, []int{5, 4, 0, 0, 0}, 4, 7, 4, true},
		{"of T, with nothing open", wide, []int64{1, 1, 1, 1, 1, 1, 1, 0}, []int{5, 4, 0, 0, 0}, 4, 0, 0, false},
		{"parallel arcs", many, slices.Repeat([]int64{1}, 14), []int{2, 0, 2, 0, 5}, 4, 10, 2, true},
		{"parallel arcs, and the first is full", many, []int64{1, 1, 1, 1, 1, 1, 1, 1, 1, 1, 0, 1, 1, 1}, []int{2, 0, 2, 0, 5}, 4, 11, 2, true},
		{"arcs against each other", many, slices.Repeat([]int64{1}, 14), []int{0, 0, 3, 0, 5}, 2, 7, 0, true},
		{"a vertex without arcs", many, slices.Repeat([]int64{1}, 14), []int{0, 0, 0, 0, 5}, 3, 0, 0, false},
	} {
		if a, low, ok := label.Least(x.c, x.res, x.h, x.u); a != x.a || low != x.low || ok != x.ok {
			t.Errorf("%s: Least is %d, %d, %t, want %d, %d, %t", x.name, a, low, ok, x.a, x.low, x.ok)
		}
		checkByDefinition(t, x.c, x.res, x.h)
	}
}

// P6.2: what is not a vertex, below 0, N, or above.
func TestLeastOfNoVertex(t *testing.T) {
	for _, n := range []api.Net{example(), fan(), tangle(), {N: 2, S: 0, T: 1}} {
		c := mustMake(t, n)
		h := make([]int, n.N)
		h[n.S] = n.N
		for _, u := range []int{-1, -2, math.MinInt, n.N, n.N + 1, 1 << 12, 1<<12 + 1, math.MaxInt} {
			if a, low, ok := label.Least(c, allOpen(c), h, u); a != 0 || low != 0 || ok {
				t.Errorf("N is %d: Least of %d is %d, %d, %t", n.N, u, a, low, ok)
			}
		}
	}
}
