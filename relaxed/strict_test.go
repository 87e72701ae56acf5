package relaxed_test

import (
	"slices"
	"testing"

	"acequia/api"
	"acequia/relaxed"
)

// wantStrict is the chapter's definition of a strict move, written anew.
func wantStrict(c api.Csr, p api.Pre, e api.Event) bool {
	if wantLegal(c, p, e) != api.OK {
		return false
	}
	if e.What == 1 {
		all := e.D == p.Ex[e.U] && e.D <= p.Res[e.Arc] || e.D == p.Res[e.Arc] && e.D <= p.Ex[e.U]
		return all && p.H[c.Head[e.Arc]] == p.H[e.U]-1
	}
	var heights []int
	for a := c.First[e.U]; a < c.First[e.U+1]; a++ {
		if p.Res[a] > 0 {
			heights = append(heights, p.H[c.Head[a]])
		}
	}
	if p.Ex[e.U] <= 0 || len(heights) == 0 {
		return false
	}
	least := slices.Min(heights)
	return e.H == least+1 && least >= p.H[e.U]
}

// checkStrict compares Strict to what it should be.
func checkStrict(t *testing.T, name string, c api.Csr, p api.Pre, e api.Event, want bool) {
	t.Helper()
	if got := relaxed.Strict(c, p, e); got != want {
		t.Errorf("%s: Strict(%s, %s, %+v) is %t", name, brief(c), brief(p), e, got)
	}
}

// strictCase is a move in a state: whether it is allowed, and strict.
type strictCase struct {
	name   string
	f      []int64
	h      []int
	e      api.Event
	legal  bool
	strict bool
}

func checkCases(t *testing.T, n api.Net, cases []strictCase) {
	t.Helper()
	c := mustMake(t, n)
	for _, x := range cases {
		p := state(t, n, c, x.f, x.h)
		checkRight(t, x.name, c, p, true)
		if err := relaxed.Legal(c, p, x.e); (err == api.OK) != x.legal {
			t.Errorf("%s: Legal is %d", x.name, err)
		}
		checkStrict(t, x.name, c, p, x.e, x.strict)
		if got := wantStrict(c, p, x.e); got != x.strict {
			t.Errorf("%s: by definition it is %t", x.name, got)
		}
	}
}

// P9.3: pushes that are strict, and such that are allowed, but not strict, for each of the conditions.
func TestStrictPushes(t *testing.T) {
	// Vertex 1 has 5; along 2 (to S), 3 (to T) and 4 (to 2) there are 5, 3 and 2 left. Vertex 2 has 4.
	f := []int64{5, 4, 0, 0, 0}
	checkCases(t, example(), []strictCase{
		{"all that is left", f, []int{4, 1, 0, 0}, push(1, 3, 3, 1, 0), true, true},
		{"less than is left", f, []int{4, 1, 0, 0}, push(1, 3, 2, 1, 0), true, false},
		{"1 of it", f, []int{4, 1, 0, 0}, push(1, 3, 1, 1, 0), true, false},
		{"more than is left", f, []int{4, 1, 0, 0}, push(1, 3, 4, 1, 0), false, false},
		{"all there is", f, []int{4, 0, 1, 0}, push(2, 6, 4, 1, 0), true, true},
		{"less than there is", f, []int{4, 0, 1, 0}, push(2, 6, 3, 1, 0), true, false},
		{"more than there is", f, []int{4, 0, 1, 0}, push(2, 6, 5, 1, 0), false, false},
		{"all there is, and all that is left", f, []int{4, 5, 0, 0}, push(1, 2, 5, 5, 4), true, true},
		{"less than both", f, []int{4, 5, 0, 0}, push(1, 2, 4, 5, 4), true, false},
		{"down by 2", f, []int{4, 2, 0, 0}, push(1, 3, 3, 2, 0), true, false},
		{"down by more", f, []int{4, 8, 0, 0}, push(1, 3, 3, 8, 0), true, false},
		{"level", f, []int{4, 1, 1, 0}, push(1, 4, 2, 1, 0), true, false},
		{"level, at 0", f, []int{4, 0, 0, 0}, push(1, 3, 3, 0, -1), true, false},
		{"up by 1", f, []int{4, 1, 2, 0}, push(1, 4, 2, 1, 0), true, false},
		{"up by more", f, []int{4, 1, 8, 0}, push(1, 4, 2, 1, 0), true, false},
		{"down by 1, from above S", f, []int{4, 7, 6, 0}, push(1, 4, 2, 7, 0), true, true},
		{"down by 1, from 2N", f, []int{4, 8, 7, 0}, push(1, 4, 2, 8, 3), true, true},
		{"to S, from above by 2", f, []int{4, 6, 0, 0}, push(1, 2, 5, 6, 0), true, false},
		{"with a Low that is too low", f, []int{4, 3, 2, 0}, push(1, 4, 2, 3, -9), true, true},
		{"with a Low that is another height", f, []int{4, 5, 4, 0}, push(1, 4, 2, 5, 1), true, true},
		{"with a Low that is too high", f, []int{4, 3, 2, 0}, push(1, 4, 2, 3, 3), false, false},
		{"with an H that is too high", f, []int{4, 3, 3, 0}, push(1, 4, 2, 4, 3), false, false},
		{"with an H that is too low", f, []int{4, 3, 1, 0}, push(1, 4, 2, 2, 1), false, false},
		{"back to another one", []int64{5, 4, 0, 0, 2}, []int{4, 1, 2, 0}, push(2, 7, 2, 2, 1), true, true},
		{"back to another one, of 1", []int64{5, 4, 0, 0, 2}, []int{4, 1, 2, 0}, push(2, 7, 1, 2, 1), true, false},
		{"of nothing", []int64{5, 4, 3, 0, 0}, []int{4, 1, 0, 0}, push(1, 3, 0, 1, 0), false, false},
		{"of S", f, []int{4, 3, 0, 0}, push(0, 0, 0, 4, 3), false, false},
		{"by another one", f, []int{4, 1, 0, 0}, api.Event{Who: 63, What: api.EvPush, U: 1, Arc: 3, D: 3, H: 1, Low: 0}, true, true},
		{"neither", f, []int{4, 1, 0, 0}, api.Event{What: 3, U: 1, Arc: 3, D: 3, H: 1, Low: 0}, false, false},
	})
}

// P9.3: lifts that are strict, and such that are allowed, but not strict, for each of the conditions.
func TestStrictLifts(t *testing.T) {
	f := []int64{5, 4, 0, 0, 0}
	full := []int64{5, 4, 3, 0, 0} // nothing is left from 1 to T
	checkCases(t, example(), []strictCase{
		{"just above T", f, []int{4, 0, 3, 0}, lift(1, 1), true, true},
		{"1 more", f, []int{4, 0, 3, 0}, lift(1, 2), true, false},
		{"just above one that is not the lowest", f, []int{4, 0, 3, 0}, lift(1, 4), true, false},
		{"just above S, which is not the lowest", f, []int{4, 0, 3, 0}, lift(1, 5), true, false},
		{"to 2N", f, []int{4, 0, 3, 0}, lift(1, 8), true, false},
		{"to where it is", f, []int{4, 0, 3, 0}, lift(1, 0), false, false},
		{"just above T, which is used up", full, []int{4, 0, 3, 0}, lift(1, 1), true, false},
		{"just above the lowest of the others", full, []int{4, 0, 3, 0}, lift(1, 4), true, true},
		{"level with the lowest of the others", full, []int{4, 0, 3, 0}, lift(1, 3), true, false},
		{"from as high as the lowest", full, []int{4, 3, 3, 0}, lift(1, 4), true, true},
		{"from as high as the lowest, by 2", full, []int{4, 3, 3, 0}, lift(1, 5), true, false},
		{"from just above the lowest", full, []int{4, 4, 3, 0}, lift(1, 4), false, false},
		{"from just above the lowest, by 1", full, []int{4, 4, 3, 0}, lift(1, 5), true, false},
		{"from far above the lowest, by 1", full, []int{4, 6, 3, 0}, lift(1, 7), true, false},
		{"from far above the lowest, to just above it", full, []int{4, 6, 3, 0}, lift(1, 4), false, false},
		{"just above S, as another one is higher", full, []int{4, 1, 6, 0}, lift(1, 5), true, true},
		{"just above two of the same height", full, []int{4, 1, 4, 0}, lift(1, 5), true, true},
		{"with other numbers", f, []int{4, 0, 3, 0}, api.Event{Who: -1, What: api.EvLift, U: 1, Arc: 99, D: -1, H: 1, Low: 7}, true, true},
		{"of S", f, []int{4, 0, 3, 0}, lift(0, 5), false, false},
		{"of T", f, []int{4, 0, 3, 0}, lift(3, 1), false, false},
		{"of 4", f, []int{4, 0, 3, 0}, lift(4, 1), false, false},
		{"neither", f, []int{4, 0, 3, 0}, api.Event{What: 0, U: 1, H: 1}, false, false},
	})
}

// P9.3: a lift of a vertex without an excess is not strict; nor is one above 2N, or of a vertex that nothing is open from.
func TestStrictLiftsElsewhere(t *testing.T) {
	checkCases(t, example(), []strictCase{
		{"no excess", []int64{0, 4, 0, 0, 0}, []int{4, 0, 3, 0}, lift(1, 1), true, false},
		{"no excess any more", []int64{5, 4, 3, 0, 2}, []int{4, 0, 3, 0}, lift(1, 5), true, false},
		{"some excess", []int64{5, 4, 3, 0, 1}, []int{4, 0, 3, 0}, lift(1, 4), true, true},
	})
	// 1 and 2 can only give back: 2 to 1, 1 to S.
	back := api.Net{N: 5, S: 0, T: 4, Arcs: []api.Arc{arc(0, 1, 4), arc(1, 2, 3), arc(3, 1, 2)}}
	checkCases(t, back, []strictCase{
		{"just above S, with an excess", []int64{4, 3, 0}, []int{5, 2, 0, 0, 0}, lift(1, 6), true, true},
		{"just above one at 2N - 1", []int64{4, 3, 0}, []int{5, 9, 4, 0, 0}, lift(2, 10), true, true},
		{"just above one at 2N", []int64{4, 3, 0}, []int{5, 10, 4, 0, 0}, lift(2, 11), false, false},
		{"below one at 2N", []int64{4, 3, 0}, []int{5, 10, 4, 0, 0}, lift(2, 10), true, false},
		{"nothing is open, and no excess", []int64{0, 0, 0}, []int{5, 0, 0, 0, 0}, lift(2, 1), true, false},
		{"something is open, and no excess", []int64{0, 0, 0}, []int{5, 0, 0, 0, 0}, lift(3, 1), true, false},
	})
	lone := api.Net{N: 3, S: 0, T: 2, Arcs: []api.Arc{arc(0, 2, 4)}}
	checkCases(t, lone, []strictCase{
		{"no residual arcs", []int64{4}, []int{3, 0, 0}, lift(1, 1), true, false},
		{"no residual arcs, to 2N", []int64{4}, []int{3, 0, 0}, lift(1, 6), true, false},
	})
}
