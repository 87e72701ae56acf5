package csr_test

import (
	"fmt"
	"math"
	"slices"
	"testing"

	"acequia/api"
	"acequia/csr"
)

// wantForward looks for the forward residual arc of each arc.
func wantForward(n api.Net, arcs int) []int {
	all, want := residuals(n), []int{}
	for i := range arcs {
		want = append(want, slices.IndexFunc(all, func(r residual) bool { return r.arc == i && !r.back }))
	}
	return want
}

// P2.2: Forward, at the chapter's example and in a mixture, for all and for some of the arcs, and for more than there are.
func TestForward(t *testing.T) {
	ex, mix := mustMake(t, example()), mustMake(t, mixed())
	for _, x := range []struct {
		name string
		c    api.Csr
		arcs int
		want []int
	}{
		{"the example", ex, 5, []int{0, 1, 3, 6, 4}},
		{"the first three", ex, 3, []int{0, 1, 3}},
		{"none", ex, 0, nil},
		{"two more", ex, 7, []int{0, 1, 3, 6, 4, -1, -1}},
		{"a mixture", mix, 8, []int{9, -1, 1, 11, 3, 5, 8, -1}},
		{"a mixture's first two", mix, 2, []int{9, -1}},
	} {
		if got := csr.Forward(x.c, x.arcs); !slices.Equal(got, x.want) {
			t.Errorf("%s: Forward is %v, want %v", x.name, got, x.want)
		}
	}
}

// P2.2: Forward is what it is by definition.
func TestForwardOfSmallNets(t *testing.T) {
	smallNets(func(n api.Net) {
		c := mustMake(t, n)
		for arcs := range 6 {
			if got, want := csr.Forward(c, arcs), wantForward(n, arcs); !slices.Equal(got, want) {
				t.Fatalf("Forward(%v, %d) is %v, want %v", c, arcs, got, want)
			}
		}
	})
}

// P2.2: up to MaxArcs arcs, and nothing beyond.
func TestForwardAtTheEdges(t *testing.T) {
	for name, n := range map[string]api.Net{"large": large(), "example": example(), "no arcs": {N: 2, T: 1}} {
		c := mustMake(t, n)
		got := csr.Forward(c, 1<<14)
		if len(got) != 1<<14 {
			t.Fatalf("%s: %d numbers for MaxArcs arcs", name, len(got))
		}
		for i, a := range got {
			has := i < len(n.Arcs) && n.Arcs[i].From != n.Arcs[i].To
			if has && (c.Arc[a] != i || c.Back[a]) || !has && a != -1 {
				t.Fatalf("%s: the residual arc of arc %d is %d", name, i, a)
			}
		}
		for _, arcs := range []int{-1, math.MinInt, 1<<14 + 1, math.MaxInt} {
			if got := csr.Forward(c, arcs); len(got) != 0 {
				t.Errorf("%s: Forward of %d arcs has %d numbers", name, arcs, len(got))
			}
		}
	}
}

// wantRes is the chapter's definition of the residual capacities; false if f is not within them.
func wantRes(n api.Net, f []int64) ([]int64, bool) {
	res := []int64{}
	for _, r := range residuals(n) {
		if r.arc >= len(f) || f[r.arc] < 0 || f[r.arc] > n.Arcs[r.arc].Cap {
			return nil, false
		}
		if r.back {
			res = append(res, f[r.arc])
		} else {
			res = append(res, r.cap-f[r.arc])
		}
	}
	return res, true
}

// flows calls f with all lists of so many numbers from -1 to 3.
func flows(length int, f func(list []int64)) {
	list := slices.Repeat([]int64{-1}, length)
	for {
		f(list)
		i := 0
		for ; i < length && list[i] == 3; i++ {
			list[i] = -1
		}
		if i == length {
			return
		}
		list[i]++
	}
}

// P2.3, R2: Res, at the chapter's example and at the edges; with an error there is nothing else.
func TestRes(t *testing.T) {
	ex, mix := mustMake(t, example()), mustMake(t, mixed())
	great := mustMake(t, api.Net{N: 2, T: 1, Arcs: []api.Arc{arc(0, 1, 1<<62), arc(1, 1, 0)}})
	none := mustMake(t, api.Net{N: 2, T: 1, Arcs: []api.Arc{arc(0, 0, 3)}})
	for _, x := range []struct {
		name string
		c    api.Csr
		f    []int64
		want []int64
		err  api.Errno
	}{
		{"the example", ex, []int64{3, 0, 3, 0, 0}, []int64{2, 4, 3, 0, 2, 0, 6, 0, 3, 0}, api.OK},
		{"nothing sent", ex, make([]int64, 5), ex.Cap, api.OK},
		{"all full", ex, []int64{5, 4, 3, 6, 2}, []int64{0, 0, 5, 0, 0, 4, 0, 2, 3, 6}, api.OK},
		{"a number too many, of any kind", ex, []int64{3, 0, 3, 0, 0, -7}, []int64{2, 4, 3, 0, 2, 0, 6, 0, 3, 0}, api.OK},
		{"a number too few", ex, []int64{3, 0, 3, 0}, nil, api.ErrFlow},
		{"no numbers", ex, nil, nil, api.ErrFlow},
		{"a negative one", ex, []int64{3, 0, 3, 0, -1}, nil, api.ErrFlow},
		{"the least", ex, []int64{math.MinInt64, 0, 3, 0, 0}, nil, api.ErrFlow},
		{"above a capacity", ex, []int64{3, 0, 4, 0, 0}, nil, api.ErrFlow},
		{"the greatest", ex, []int64{math.MaxInt64, 0, 3, 0, 0}, nil, api.ErrFlow},
		{"a mixture", mix, []int64{3, 0, 1, 0, 4, 0, 2, 0}, []int64{3, 1, 0, 0, 4, 0, 2, 0, 3, 0, 1, 1}, api.OK},
		{"self-loops hold any number", mix, []int64{3, -9, 1, 0, 4, 0, 2, 99}, []int64{3, 1, 0, 0, 4, 0, 2, 0, 3, 0, 1, 1}, api.OK},
		{"none for the self-loop at the end", mix, []int64{3, 0, 1, 0, 4, 0, 2}, []int64{3, 1, 0, 0, 4, 0, 2, 0, 3, 0, 1, 1}, api.OK},
		{"none for the arc ahead of it", mix, []int64{3, 0, 1, 0, 4, 0}, nil, api.ErrFlow},
		{"above a capacity of 0", mix, []int64{3, 0, 1, 0, 4, 1, 2, 0}, nil, api.ErrFlow},
		{"the greatest capacity, empty", great, []int64{0}, []int64{1 << 62, 0}, api.OK},
		{"the greatest capacity, full", great, []int64{1 << 62}, []int64{0, 1 << 62}, api.OK},
		{"above the greatest capacity", great, []int64{1<<62 + 1}, nil, api.ErrFlow},
		{"no residual arcs, no numbers", none, nil, nil, api.OK},
		{"no residual arcs, any numbers", none, []int64{-4, 5}, nil, api.OK},
	} {
		got, err := csr.Res(x.c, x.f)
		if !slices.Equal(got, x.want) || err != x.err {
			t.Errorf("%s: Res is %v, %d, want %v, %d", x.name, got, err, x.want, x.err)
		}
	}
}

// P2.3, P2.4: Res is what it is by definition; Flow leads back to f, but for self-loops; and different flows have different residual capacities, unless they differ on self-loops alone.
func TestResOfSmallNets(t *testing.T) {
	tried := 0
	smallNets(func(n api.Net) {
		// The numbers of all nets would take too long: each seventh net is tried, which leaves none of the kinds out.
		if tried++; len(n.Arcs) == 3 && tried%7 != 0 {
			return
		}
		c, seen := mustMake(t, n), map[string][]int64{}
		for length := range len(n.Arcs) + 2 {
			flows(length, func(f []int64) {
				got, err := csr.Res(c, f)
				want, ok := wantRes(n, f)
				if !slices.Equal(got, want) || ok != (err == api.OK) || !ok && err != api.ErrFlow {
					t.Fatalf("Res(%v, %v) is %v, %d, want %v", c, f, got, err, want)
				}
				if !ok || length != len(n.Arcs) {
					return
				}
				base := withoutLoops(n, f)
				if back, err := csr.Flow(c, got, length); err != api.OK || !slices.Equal(back, base) {
					t.Fatalf("Flow(%v, %v) is %v, %d, want %v", c, got, back, err, base)
				}
				if other, known := seen[fmt.Sprint(got)]; known && !slices.Equal(other, base) {
					t.Fatalf("%v: %v and %v have the same residual capacities", c, other, base)
				}
				seen[fmt.Sprint(got)] = base
			})
		}
	})
}

// withoutLoops is f with 0 for each self-loop.
func withoutLoops(n api.Net, f []int64) []int64 {
	base := slices.Clone(f)
	for i, a := range n.Arcs {
		if a.From == a.To {
			base[i] = 0
		}
	}
	return base
}

// P2.3, R2: Flow, at the chapter's example and at the edges; ErrArg comes ahead of ErrFlow; with an error there is nothing else.
func TestFlow(t *testing.T) {
	ex, mix := mustMake(t, example()), mustMake(t, mixed())
	great := mustMake(t, api.Net{N: 2, T: 1, Arcs: []api.Arc{arc(0, 1, 1<<62), arc(1, 0, 0)}})
	none := mustMake(t, api.Net{N: 2, T: 1, Arcs: []api.Arc{arc(0, 0, 3)}})
	res, mixRes := []int64{2, 4, 3, 0, 2, 0, 6, 0, 3, 0}, []int64{3, 1, 0, 0, 4, 0, 2, 0, 3, 0, 1, 1}
	with := func(list []int64, at int, x int64) []int64 {
		list = slices.Clone(list)
		list[at] = x
		return list
	}
	for _, x := range []struct {
		name string
		c    api.Csr
		res  []int64
		arcs int
		want []int64
		err  api.Errno
	}{
		{"the example", ex, res, 5, []int64{3, 0, 3, 0, 0}, api.OK},
		{"nothing sent", ex, ex.Cap, 5, make([]int64, 5), api.OK},
		{"two arcs more", ex, res, 7, []int64{3, 0, 3, 0, 0, 0, 0}, api.OK},
		{"MaxArcs", ex, res, 1 << 14, append([]int64{3, 0, 3, 0, 0}, make([]int64, 1<<14-5)...), api.OK},
		{"MaxArcs and one more", ex, res, 1<<14 + 1, nil, api.ErrArg},
		{"the greatest count", ex, res, math.MaxInt, nil, api.ErrArg},
		{"one arc less", ex, res, 4, nil, api.ErrArg},
		{"no arcs", ex, res, 0, nil, api.ErrArg},
		{"-1 arcs", ex, res, -1, nil, api.ErrArg},
		{"the least count", ex, res, math.MinInt, nil, api.ErrArg},
		{"a number too few", ex, res[:9], 5, nil, api.ErrArg},
		{"a number too many", ex, append(slices.Clone(res), 0), 5, nil, api.ErrArg},
		{"no numbers", ex, nil, 5, nil, api.ErrArg},
		{"too few, and negative", ex, with(res, 0, -1)[:9], 5, nil, api.ErrArg},
		{"negative, and one arc less", ex, with(res, 0, -1), 4, nil, api.ErrArg},
		{"negative, and -1 arcs", ex, with(res, 0, -1), -1, nil, api.ErrArg},
		{"negative, and too many arcs", ex, with(res, 0, -1), 1<<14 + 1, nil, api.ErrArg},
		{"a wrong sum, and one arc less", ex, with(res, 9, 1), 4, nil, api.ErrArg},
		{"above the sum, forward", ex, with(res, 0, 3), 5, nil, api.ErrFlow},
		{"below the sum, forward", ex, with(res, 0, 1), 5, nil, api.ErrFlow},
		{"above the sum, backward", ex, with(res, 9, 1), 5, nil, api.ErrFlow},
		{"below the sum, backward", ex, with(res, 8, 2), 5, nil, api.ErrFlow},
		{"the right sum, negative forward", ex, with(with(res, 0, -1), 2, 6), 5, nil, api.ErrFlow},
		{"the right sum, negative backward", ex, with(with(res, 6, 7), 9, -1), 5, nil, api.ErrFlow},
		{"a mixture", mix, mixRes, 8, []int64{3, 0, 1, 0, 4, 0, 2, 0}, api.OK},
		{"without the self-loop at the end", mix, mixRes, 7, []int64{3, 0, 1, 0, 4, 0, 2}, api.OK},
		{"without the arc ahead of it", mix, mixRes, 6, nil, api.ErrArg},
		{"more than a capacity of 0", mix, with(mixRes, 5, 1), 8, nil, api.ErrFlow},
		{"the greatest capacity, empty", great, []int64{1 << 62, 0, 0, 0}, 2, []int64{0, 0}, api.OK},
		{"the greatest capacity, full", great, []int64{0, 0, 1 << 62, 0}, 2, []int64{1 << 62, 0}, api.OK},
		{"the greatest capacity, twice", great, []int64{1 << 62, 0, 1 << 62, 0}, 2, nil, api.ErrFlow},
		{"a sum of 0 if it wraps round", great, []int64{1 << 62, math.MinInt64, 0, math.MinInt64}, 2, nil, api.ErrFlow},
		{"a sum that wraps round", great, []int64{math.MaxInt64, 0, math.MaxInt64, 0}, 2, nil, api.ErrFlow},
		{"a wrong sum of nothing", great, []int64{1 << 62, math.MaxInt64, 0, math.MaxInt64}, 2, nil, api.ErrFlow},
		{"no residual arcs, no arcs", none, nil, 0, nil, api.OK},
		{"no residual arcs, an arc", none, []int64{}, 1, []int64{0}, api.OK},
		{"no residual arcs, a number", none, []int64{0}, 1, nil, api.ErrArg},
		{"no residual arcs, -1 arcs", none, nil, -1, nil, api.ErrArg},
		{"no residual arcs, too many arcs", none, nil, 1<<14 + 1, nil, api.ErrArg},
	} {
		got, err := csr.Flow(x.c, x.res, x.arcs)
		if !slices.Equal(got, x.want) || err != x.err {
			t.Errorf("%s: Flow is %v, %d, want %v, %d", x.name, got, err, x.want, x.err)
		}
	}
}

// P2.3: of all lists of residual capacities, those that Flow accepts are the ones that Res returns.
func TestFlowAcceptsWhatResReturns(t *testing.T) {
	for _, n := range []api.Net{
		{N: 2, T: 1},
		{N: 3, T: 1, Arcs: []api.Arc{arc(2, 2, 2), arc(1, 0, 2)}},
		{N: 2, T: 1, Arcs: []api.Arc{arc(1, 0, 2), arc(0, 1, 0), arc(1, 1, 1)}},
		{N: 3, T: 1, Arcs: []api.Arc{arc(2, 0, 1), arc(2, 2, 2), arc(2, 0, 3), arc(1, 2, 2)}},
	} {
		c := mustMake(t, n)
		flows(csr.Len(c), func(res []int64) {
			f, err := csr.Flow(c, res, len(n.Arcs))
			want := api.OK
			if !accepts(n, c, res) {
				want = api.ErrFlow
			}
			if err != want || len(f) > 0 && err != api.OK {
				t.Fatalf("Flow(%v, %v) is %v, %d, want the error %d", c, res, f, err, want)
			}
		})
	}
}

// accepts asks whether some flow has these residual capacities.
func accepts(n api.Net, c api.Csr, res []int64) bool {
	f := make([]int64, len(n.Arcs))
	for a, x := range res {
		if c.Back[a] {
			f[c.Arc[a]] = x
		}
	}
	want, ok := wantRes(n, f)
	return ok && slices.Equal(want, res)
}

// P2.3: Res and Flow, with as many arcs as there may be.
func TestResOfManyArcs(t *testing.T) {
	n := large()
	c, f := mustMake(t, n), make([]int64, 1<<14)
	for i := range f {
		f[i] = n.Arcs[i].Cap * int64(i%3) / 2
	}
	res, err := csr.Res(c, f)
	if want, _ := wantRes(n, f); err != api.OK || !slices.Equal(res, want) {
		t.Fatalf("Res is not what it is by definition (error %d)", err)
	}
	if back, err := csr.Flow(c, res, 1<<14); err != api.OK || !slices.Equal(back, withoutLoops(n, f)) {
		t.Fatalf("Flow does not lead back (error %d)", err)
	}
	f[1<<14-1] = n.Arcs[1<<14-1].Cap + 1
	if _, err := csr.Res(c, f); err != api.ErrFlow {
		t.Errorf("the last number is too great: the error is %d", err)
	}
}
