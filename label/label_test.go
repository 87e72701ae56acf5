package label_test

import (
	"fmt"
	"math"
	"slices"
	"testing"

	"acequia/api"
	"acequia/csr"
	"acequia/label"
)

// arc is short for the literals below.
func arc(from, to int, cap int64) api.Arc { return api.Arc{From: from, To: to, Cap: cap} }

// example is the network of the chapter's examples.
func example() api.Net {
	return api.Net{N: 3, S: 0, T: 2, Arcs: []api.Arc{arc(0, 1, 5), arc(1, 2, 5)}}
}

// fan has a vertex (1) whose residual arcs lead to all other ones: the numbers are 0: 0>1; 1: 1>0 (back); 2: 1>2; 3: 1>3; 4: 1>4; 5: 2>1 (back); 6: 3>1 (back); 7: 4>1 (back).
func fan() api.Net {
	return api.Net{N: 5, S: 0, T: 4, Arcs: []api.Arc{arc(0, 1, 9), arc(1, 2, 9), arc(1, 3, 9), arc(1, 4, 9)}}
}

// tangle has self-loops, parallel arcs, arcs against each other, one of no capacity, and a vertex (3) without arcs.
// Its residual arcs are 0: 0>4 (back), 1: 0>4, 2: 0>4 (back), 3: 0>1; 4: 1>0 (back), 5: 1>2, 6: 1>2 (back); 7: 2>1 (back), 8: 2>1, 9: 2>4 (back); 10: 4>0, 11: 4>0 (back), 12: 4>0, 13: 4>2.
func tangle() api.Net {
	return api.Net{N: 5, S: 4, T: 1, Arcs: []api.Arc{
		arc(4, 0, 3), arc(2, 2, 8), arc(0, 4, 2), arc(4, 0, 1), arc(0, 1, 4), arc(1, 2, 0), arc(2, 1, 5), arc(0, 0, 1), arc(4, 2, 2),
	}}
}

// large has as many vertices and arcs as there may be, with ends of all kinds.
func large() api.Net {
	n := api.Net{N: 1 << 12, S: 1<<12 - 1, T: 7, Arcs: make([]api.Arc, 1<<14)}
	for i := range n.Arcs {
		n.Arcs[i] = arc(i*i%4093, i*37%4096, int64(i%5)<<40)
	}
	return n
}

// mustMake returns the residual network of a valid network.
func mustMake(t *testing.T, n api.Net) api.Csr {
	t.Helper()
	c, err := csr.Make(n)
	if err != api.OK {
		t.Fatalf("Make(%v) has the error %d", n, err)
	}
	return c
}

// allOpen are residual capacities for which all residual arcs are open.
func allOpen(c api.Csr) []int64 { return slices.Repeat([]int64{1}, csr.Len(c)) }

// brief is the beginning of what x looks like, as the largest networks would fill pages.
func brief(x any) string { return fmt.Sprintf("%.300s", fmt.Sprint(x)) }

// wantRight is the chapter's definition of heights, written anew.
func wantRight(c api.Csr, h []int) bool {
	if len(h) != c.N {
		return false
	}
	for v, height := range h {
		if height < 0 || height > c.N || v == c.S && height != c.N || v == c.T && height != 0 {
			return false
		}
	}
	return true
}

// wantDrops is the chapter's definition of steep and flat, written anew, row by row: the open residual arcs that lead down by least to most.
func wantDrops(c api.Csr, res []int64, h []int, least, most int) []int {
	var list []int
	if len(res) != csr.Len(c) || !wantRight(c, h) {
		return nil
	}
	for u := range c.N {
		for a := c.First[u]; a < c.First[u+1]; a++ {
			if drop := h[u] - h[c.Head[a]]; u != c.S && res[a] > 0 && least <= drop && drop <= most {
				list = append(list, a)
			}
		}
	}
	return list
}

// wantLeast is the chapter's definition of the least end, written anew: for each height, from the least one on, all open residual arcs of u are asked.
func wantLeast(c api.Csr, res []int64, h []int, u int) (int, int, bool) {
	if u < 0 || u >= c.N || len(res) != csr.Len(c) || !wantRight(c, h) {
		return 0, 0, false
	}
	for height := range c.N + 1 {
		for a := c.First[u]; a < c.First[u+1]; a++ {
			if res[a] > 0 && h[c.Head[a]] == height {
				return a, height, true
			}
		}
	}
	return 0, 0, false
}

// wantSum is the sum of heights, 0 of such that are none.
func wantSum(c api.Csr, h []int) int {
	sum := 0
	for _, height := range h {
		sum += height
	}
	if !wantRight(c, h) {
		return 0
	}
	return sum
}

// checkByDefinition compares all calls to the definitions.
func checkByDefinition(t *testing.T, c api.Csr, res []int64, h []int) {
	t.Helper()
	if got, want := label.Right(c, h), wantRight(c, h); got != want {
		t.Fatalf("Right(%s, %s) is %t", brief(c), brief(h), got)
	}
	steep := wantDrops(c, res, h, 2, math.MaxInt)
	if got := label.Steep(c, res, h); !slices.Equal(got, steep) {
		t.Fatalf("Steep(%s, %s, %s) is %s, want %s", brief(c), brief(res), brief(h), brief(got), brief(steep))
	}
	if got, want := label.Flat(c, res, h), wantDrops(c, res, h, 1, 1); !slices.Equal(got, want) {
		t.Fatalf("Flat(%s, %s, %s) is %s, want %s", brief(c), brief(res), brief(h), brief(got), brief(want))
	}
	valid := wantRight(c, h) && len(res) == csr.Len(c) && len(steep) == 0
	if got := label.Valid(c, res, h); got != valid {
		t.Fatalf("Valid(%s, %s, %s) is %t", brief(c), brief(res), brief(h), got)
	}
	if got, want := label.Sum(c, h), wantSum(c, h); got != want {
		t.Fatalf("Sum(%s, %s) is %d, want %d", brief(c), brief(h), got, want)
	}
	for u := -1; u <= c.N; u++ {
		checkLeast(t, c, res, h, u)
	}
}

// checkLeast compares Least to its definition.
func checkLeast(t *testing.T, c api.Csr, res []int64, h []int, u int) {
	t.Helper()
	a, low, ok := label.Least(c, res, h, u)
	if wantA, wantLow, wantOk := wantLeast(c, res, h, u); a != wantA || low != wantLow || ok != wantOk {
		t.Fatalf("Least(%s, %s, %s, %d) is %d, %d, %t, want %d, %d, %t", brief(c), brief(res), brief(h), u, a, low, ok, wantA, wantLow, wantOk)
	}
}

// checkNothing checks that no call but Right and Sum finds anything.
func checkNothing(t *testing.T, name string, c api.Csr, res []int64, h []int) {
	t.Helper()
	if got := label.Steep(c, res, h); len(got) > 0 {
		t.Errorf("%s: Steep is %s", name, brief(got))
	}
	if got := label.Flat(c, res, h); len(got) > 0 {
		t.Errorf("%s: Flat is %s", name, brief(got))
	}
	if label.Valid(c, res, h) {
		t.Errorf("%s: they are valid", name)
	}
	for u := range min(c.N, 10) {
		if a, low, ok := label.Least(c, res, h, u); a != 0 || low != 0 || ok {
			t.Errorf("%s: Least of %d is %d, %d, %t", name, u, a, low, ok)
		}
	}
}

// P6.1, P6.2: the chapter's examples.
func TestExamples(t *testing.T) {
	c, res := mustMake(t, example()), []int64{5, 0, 5, 0}
	for _, x := range []struct {
		h           []int
		steep, flat []int
		sum         int
	}{
		{[]int{3, 1, 0}, nil, []int{2}, 4},
		{[]int{3, 2, 0}, []int{2}, nil, 5},
		{[]int{3, 0, 0}, nil, nil, 3},
	} {
		if !label.Right(c, x.h) || label.Valid(c, res, x.h) != (len(x.steep) == 0) {
			t.Errorf("%v: they are heights: %t, valid: %t", x.h, label.Right(c, x.h), label.Valid(c, res, x.h))
		}
		if steep, flat := label.Steep(c, res, x.h), label.Flat(c, res, x.h); !slices.Equal(steep, x.steep) || !slices.Equal(flat, x.flat) {
			t.Errorf("%v: steep are %v, flat are %v, want %v, %v", x.h, steep, flat, x.steep, x.flat)
		}
		if a, low, ok := label.Least(c, res, x.h, 1); a != 2 || low != 0 || !ok {
			t.Errorf("%v: Least of 1 is %d, %d, %t", x.h, a, low, ok)
		}
		if sum := label.Sum(c, x.h); sum != x.sum {
			t.Errorf("%v: the sum is %d, want %d", x.h, sum, x.sum)
		}
	}
}

// P6.1, P6.2: what heights are; what are none has no steep, no flat and no least residual arc, is not valid, and has the sum 0.
func TestHeights(t *testing.T) {
	c := mustMake(t, tangle())
	for _, x := range []struct {
		name string
		h    []int
		want bool
		sum  int
	}{
		{"the least", []int{0, 0, 0, 0, 5}, true, 5},
		{"the greatest", []int{5, 0, 5, 5, 5}, true, 20},
		{"between", []int{1, 0, 4, 3, 5}, true, 13},
		{"none", nil, false, 0},
		{"one too few", []int{5, 0, 5, 5}, false, 0},
		{"one too many", []int{5, 0, 5, 5, 5, 0}, false, 0},
		{"T is not 0", []int{5, 1, 5, 5, 5}, false, 0},
		{"T is N", []int{0, 5, 0, 0, 5}, false, 0},
		{"T is negative", []int{5, -1, 5, 5, 5}, false, 0},
		{"S is less than N", []int{0, 0, 0, 0, 4}, false, 0},
		{"S is 0", []int{0, 0, 0, 0, 0}, false, 0},
		{"S is more than N", []int{0, 0, 0, 0, 6}, false, 0},
		{"S and T are exchanged", []int{0, 5, 0, 0, 0}, false, 0},
		{"the first is negative", []int{-1, 0, 0, 0, 5}, false, 0},
		{"one without arcs is negative", []int{0, 0, 0, -1, 5}, false, 0},
		{"the first is above N", []int{6, 0, 0, 0, 5}, false, 0},
		{"one without arcs is above N", []int{0, 0, 0, 6, 5}, false, 0},
		{"far below", []int{0, 0, math.MinInt, 0, 5}, false, 0},
		{"far above", []int{0, 0, math.MaxInt, 0, 5}, false, 0},
		{"two that make up for each other", []int{-1, 0, 6, 0, 5}, false, 0},
	} {
		if got := label.Right(c, x.h); got != x.want {
			t.Errorf("%s: Right is %t", x.name, got)
		}
		if got := label.Sum(c, x.h); got != x.sum {
			t.Errorf("%s: Sum is %d, want %d", x.name, got, x.sum)
		}
		for _, res := range [][]int64{make([]int64, 14), allOpen(c), nil} {
			if !x.want {
				checkNothing(t, x.name, c, res, x.h)
			}
			checkByDefinition(t, c, res, x.h)
		}
	}
}

// P6.1: residual arcs that are steep by one, flat, level, or lead up; those that begin at S, and those that end there.
func TestSlopes(t *testing.T) {
	c := mustMake(t, fan())
	for _, x := range []struct {
		name        string
		h           []int
		steep, flat []int
	}{
		{"level, but for S and T", []int{5, 0, 0, 0, 0}, nil, nil},
		{"flat to all but S", []int{5, 1, 0, 0, 0}, nil, []int{2, 3, 4}},
		{"steep by one", []int{5, 2, 0, 0, 0}, []int{2, 3, 4}, nil},
		{"one of each kind", []int{5, 2, 0, 1, 0}, []int{2, 4}, []int{3}},
		{"one level, one up, one steep", []int{5, 2, 2, 3, 0}, []int{4}, []int{6}},
		{"as high as S", []int{5, 5, 3, 4, 0}, []int{2, 4}, []int{3}},
		{"back to what is lower", []int{5, 0, 1, 2, 0}, []int{6}, []int{5}},
		{"one below S", []int{5, 4, 4, 5, 0}, []int{4}, []int{6}},
		{"as steep as can be", []int{5, 0, 5, 0, 0}, []int{5}, nil},
	} {
		if got := label.Steep(c, allOpen(c), x.h); !slices.Equal(got, x.steep) {
			t.Errorf("%s: Steep is %v, want %v", x.name, got, x.steep)
		}
		if got := label.Flat(c, allOpen(c), x.h); !slices.Equal(got, x.flat) {
			t.Errorf("%s: Flat is %v, want %v", x.name, got, x.flat)
		}
		if got := label.Valid(c, allOpen(c), x.h); got != (len(x.steep) == 0) {
			t.Errorf("%s: Valid is %t", x.name, got)
		}
		for name, res := range map[string][]int64{"0": make([]int64, 8), "negative": slices.Repeat([]int64{-1}, 8), "the least": slices.Repeat([]int64{math.MinInt64}, 8)} {
			if steep, flat := label.Steep(c, res, x.h), label.Flat(c, res, x.h); len(steep) > 0 || len(flat) > 0 || !label.Valid(c, res, x.h) {
				t.Errorf("%s, with residual capacities that are %s: steep are %v, flat are %v", x.name, name, steep, flat)
			}
		}
	}
}

// P6.1: what is open from S is neither steep nor flat, however low its end, and S may be any vertex.
func TestFromTheSource(t *testing.T) {
	for _, n := range []api.Net{
		{N: 3, S: 0, T: 1, Arcs: []api.Arc{arc(0, 1, 1), arc(0, 2, 1)}},
		{N: 3, S: 1, T: 2, Arcs: []api.Arc{arc(1, 2, 1), arc(1, 0, 1)}},
		{N: 3, S: 2, T: 0, Arcs: []api.Arc{arc(2, 0, 1), arc(2, 1, 1)}},
	} {
		c := mustMake(t, n)
		res, err := csr.Res(c, []int64{0, 0})
		if err != api.OK {
			t.Fatal(err)
		}
		for height := range 4 {
			h := slices.Repeat([]int{height}, 3)
			h[n.S], h[n.T] = 3, 0
			if steep, flat := label.Steep(c, res, h), label.Flat(c, res, h); len(steep) > 0 || len(flat) > 0 || !label.Valid(c, res, h) {
				t.Errorf("S is %d, heights %v: steep are %v, flat are %v", n.S, h, steep, flat)
			}
			checkByDefinition(t, c, res, h)
		}
	}
}

// P6.1: self-loops have no residual arcs; parallel arcs, arcs against each other and their residual arcs count each for itself.
func TestTangle(t *testing.T) {
	c := mustMake(t, tangle())
	h := []int{1, 0, 2, 5, 5}
	for _, x := range []struct {
		name        string
		f           []int64
		steep, flat []int
	}{
		{"nothing sent", make([]int64, 9), []int{8}, []int{3}},
		{"one of several arcs is full", []int64{1, 8, 0, 0, 4, 0, 5, 1, 2}, nil, nil},
		{"sent to where it is higher", []int64{3, 0, 2, 1, 1, 0, 4, 0, 1}, []int{8}, []int{3}},
	} {
		res, err := csr.Res(c, x.f)
		if err != api.OK {
			t.Fatalf("%s: Res has the error %d", x.name, err)
		}
		if got := label.Steep(c, res, h); !slices.Equal(got, x.steep) {
			t.Errorf("%s: Steep is %v, want %v", x.name, got, x.steep)
		}
		if got := label.Flat(c, res, h); !slices.Equal(got, x.flat) {
			t.Errorf("%s: Flat is %v, want %v", x.name, got, x.flat)
		}
	}
	if got := label.Steep(c, allOpen(c), h); !slices.Equal(got, []int{7, 8}) {
		t.Errorf("all open: Steep is %v", got)
	}
	if got := label.Flat(c, allOpen(c), []int{3, 0, 1, 0, 5}); !slices.Equal(got, []int{7, 8}) {
		t.Errorf("all open, vertex 2 at 1: Flat is %v", got)
	}
}

// P6.1, P6.2: residual capacities are any numbers; those above 0 are open, and the capacities do not matter.
func TestAnyResidualCapacities(t *testing.T) {
	c := mustMake(t, fan())
	h := []int{5, 3, 2, 1, 0}
	for _, x := range []struct {
		res         []int64
		steep, flat []int
	}{
		{[]int64{0, 0, 1, 1, 1, 0, 0, 0}, []int{3, 4}, []int{2}},
		{[]int64{9, 9, 0, 1 << 62, -1, 9, 9, 9}, []int{3}, nil},
		{[]int64{-9, -9, math.MaxInt64, 0, math.MinInt64, -9, -9, -9}, nil, []int{2}},
		{[]int64{math.MaxInt64, 0, -7, -7, 7, 0, 0, 0}, []int{4}, nil},
	} {
		if got := label.Steep(c, x.res, h); !slices.Equal(got, x.steep) {
			t.Errorf("Steep with %v is %v, want %v", x.res, got, x.steep)
		}
		if got := label.Flat(c, x.res, h); !slices.Equal(got, x.flat) {
			t.Errorf("Flat with %v is %v, want %v", x.res, got, x.flat)
		}
		checkByDefinition(t, c, x.res, h)
	}
}

// P6.1, P6.2: residual capacities that are too few, too many, or none at all; Right and Sum do not ask for any.
func TestWrongResidualCapacities(t *testing.T) {
	for _, n := range []api.Net{example(), fan(), tangle(), large(), {N: 2, S: 0, T: 1}, {N: 2, S: 1, T: 0, Arcs: []api.Arc{arc(1, 1, 3)}}} {
		c := mustMake(t, n)
		h := make([]int, n.N)
		h[n.S] = n.N
		if !label.Valid(c, make([]int64, csr.Len(c)), h) {
			t.Errorf("N is %d: with nothing open they are not valid", n.N)
		}
		for _, count := range []int{0, 1, len(n.Arcs), csr.Len(c) - 1, csr.Len(c) + 1, 2*csr.Len(c) + 2} {
			if count < 0 || count == csr.Len(c) {
				continue
			}
			checkNothing(t, fmt.Sprintf("N is %d, %d residual capacities", n.N, count), c, slices.Repeat([]int64{1}, count), h)
			checkNothing(t, fmt.Sprintf("N is %d, %d that are 0", n.N, count), c, make([]int64, count), h)
		}
	}
}

// P6.1, P6.2: networks without residual arcs: all heights are valid, and nothing is open.
func TestWithoutResidualArcs(t *testing.T) {
	for _, n := range []api.Net{{N: 2, S: 0, T: 1}, {N: 3, S: 2, T: 0, Arcs: []api.Arc{arc(1, 1, 4)}}} {
		c := mustMake(t, n)
		allHeights(c, func(h []int) {
			checkByDefinition(t, c, nil, h)
			checkByDefinition(t, c, []int64{}, h)
			if !label.Valid(c, nil, h) {
				t.Errorf("%v: %v are not valid", n, h)
			}
		})
	}
}

// P6.1, P6.2: as many vertices and arcs as there may be, and as great heights.
func TestLargest(t *testing.T) {
	n := large()
	c := mustMake(t, n)
	for seed := range 4 {
		h, res := make([]int, n.N), make([]int64, csr.Len(c))
		for v := range h {
			h[v] = v * (seed + 3) % 5 * (seed * seed * seed * 30)
		}
		h[n.S], h[n.T], h[9] = n.N, 0, n.N
		for a := range res {
			res[a] = int64(a*a%7 - seed)
		}
		checkLarge(t, c, res, h)
	}
	h := slices.Repeat([]int{n.N}, n.N)
	h[n.T] = 0
	checkLarge(t, c, allOpen(c), h)
	if sum := label.Sum(c, h); sum != n.N*(n.N-1) {
		t.Errorf("the greatest sum is %d", sum)
	}
}

// checkLarge compares all calls but Least to the definitions, and Least of some vertices.
func checkLarge(t *testing.T, c api.Csr, res []int64, h []int) {
	t.Helper()
	if got, want := label.Steep(c, res, h), wantDrops(c, res, h, 2, math.MaxInt); !slices.Equal(got, want) {
		t.Errorf("Steep is %s, want %s", brief(got), brief(want))
	}
	if got, want := label.Flat(c, res, h), wantDrops(c, res, h, 1, 1); !slices.Equal(got, want) {
		t.Errorf("Flat is %s, want %s", brief(got), brief(want))
	}
	if !label.Right(c, h) || label.Sum(c, h) != wantSum(c, h) {
		t.Errorf("they are heights: %t; their sum is %d", label.Right(c, h), label.Sum(c, h))
	}
	for u := range 50 {
		checkLeast(t, c, res, h, u)
		checkLeast(t, c, res, h, c.N-1-u)
	}
}
