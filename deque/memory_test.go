package deque_test

import (
	"math"
	"slices"
	"testing"

	"acequia/api"
	"acequia/cells"
	"acequia/deque"
)

// R3: what Held returns shares no memory with the bank, nor with what it returns again.
func TestHeldIsNew(t *testing.T) {
	l := mustPlan(t, 4, 2)
	b := mustNew(t, l)
	for _, v := range []int64{5, 6, 7} {
		push(t, b, l, 1, v, 4, true)
	}
	first, second := deque.Held(l, 1, b), deque.Held(l, 1, b)
	before := b.All()
	first = first[:cap(first)]
	for i := range first {
		first[i] = 99
	}
	if !slices.Equal(b.All(), before) {
		t.Error("the bank has changed with what Held returned")
	}
	pop(t, b, l, 1, 7, 4, true)
	push(t, b, l, 1, 8, 4, true)
	if !slices.Equal(second, []int64{5, 6, 7}) {
		t.Errorf("what Held returned has changed: %v", second)
	}
	checkHeld(t, b, l, 1, 5, 6, 8)
}

// P11.2, R3: Held changes nothing.
func TestHeldChangesNothing(t *testing.T) {
	l := mustPlan(t, 4, 2)
	b := mustNew(t, l)
	push(t, b, l, 0, 5, 4, true)
	before := b.All()
	for w := range l.Workers {
		deque.Held(l, w, b)
	}
	if !slices.Equal(b.All(), before) {
		t.Error("Held has changed the bank")
	}
}

// R4: machines are apart from each other: the same calls return the same, whichever were made in between.
func TestMachinesAreApart(t *testing.T) {
	l, other := mustPlan(t, 4, 2), mustPlan(t, 1, 1)
	b, c := mustNew(t, l), mustNew(t, other)
	p, q := deque.NewPush(l, 1, 5), deque.NewPush(other, 0, 6)
	for range 3 {
		p.Step(b)
		q.Step(c)
	}
	if !q.Step(c) || !p.Step(b) {
		t.Error("a push is not done")
	}
	checkHeld(t, b, l, 1, 5)
	checkHeld(t, b, l, 0)
	checkHeld(t, c, other, 0, 6)
}

// R5: machines that are nil, or zero values, make no access and have done nothing.
func TestNoMachines(t *testing.T) {
	l := mustPlan(t, 2, 1)
	b := mustNew(t, l)
	push(t, b, l, 0, 5, 4, true)
	before := b.All()
	for _, p := range []*deque.Push{nil, {}} {
		for range most {
			if p.Step(b) || p.OK() {
				t.Error("a push that is none has done something")
			}
		}
	}
	for _, p := range []*deque.Pop{nil, {}} {
		for range most {
			if v, ok := p.Got(); p.Step(b) || v != 0 || ok {
				t.Error("a pop that is none has done something")
			}
		}
	}
	for _, s := range []*deque.Steal{nil, {}} {
		for range most {
			if v, ok := s.Got(); s.Step(b) || v != 0 || ok || s.Lost() {
				t.Error("a steal that is none has done something")
			}
		}
	}
	if !slices.Equal(b.All(), before) {
		t.Error("the bank has changed")
	}
}

// oddLayouts are layouts that Plan did not return.
func oddLayouts(t *testing.T) []api.Layout {
	good := mustPlan(t, 3, 2)
	list := []api.Layout{{}, {Workers: 64}, {Workers: math.MaxInt, Room: math.MaxInt, Deques: math.MaxInt}, {Workers: math.MinInt, Room: math.MinInt, Deques: math.MinInt}}
	for _, x := range []int{math.MinInt, -2, -1, 0, 1, 3, 1 << 40, 1 << 62, math.MaxInt} {
		room, workers, deques, all := good, good, good, good
		room.Room, workers.Workers, deques.Deques = x, x, x
		all.Room, all.Workers, all.Deques = x, x, x
		list = append(list, room, workers, deques, all)
	}
	return list
}

// R1: every call returns, for any layouts, workers and banks.
func TestAnyArguments(t *testing.T) {
	good := mustPlan(t, 3, 2)
	small, err := cells.New(good.Deques + 1)
	if err != api.OK {
		t.Fatal(err)
	}
	odd := mustNew(t, good)
	for i := range good.Size {
		odd.Store(i, []int64{math.MinInt64, -1, 0, 1, 7, math.MaxInt64}[i%6])
	}
	wide := mustNew(t, good)
	setEnds(wide, good, 0, math.MinInt64, math.MaxInt64)
	setEnds(wide, good, 1, 1, math.MaxInt64)
	copied := *odd
	banks := []*cells.Bank{nil, {}, small, odd, wide, &copied, mustNew(t, good)}
	for _, l := range append(oddLayouts(t), good) {
		for _, w := range []int{math.MinInt, -1, 0, 1, 2, 63, math.MaxInt} {
			for _, b := range banks {
				if held := deque.Held(l, w, b); len(held) > good.Size {
					t.Errorf("Held returns %d numbers", len(held))
				}
				tryMachines(l, w, b)
			}
		}
	}
}

// tryMachines makes steps of all machines.
func tryMachines(l api.Layout, w int, b *cells.Bank) {
	p, q, s := deque.NewPush(l, w, 5), deque.NewPop(l, w), deque.NewSteal(l, w)
	for range most {
		p.Step(b)
		q.Step(b)
		s.Step(b)
		p.OK()
		q.Got()
		s.Got()
		s.Lost()
	}
}

// R7: for a worker that the layout has not there is no deque: machines are done at once, without anything, and no cell is touched.
func TestNoSuchWorker(t *testing.T) {
	l := mustPlan(t, 3, 2)
	b := mustNew(t, l)
	for i := range l.Size {
		b.Store(i, int64(i))
	}
	before := b.All()
	for _, w := range []int{math.MinInt, -1, 2, 3, 64, math.MaxInt} {
		p, q, s := deque.NewPush(l, w, 5), deque.NewPop(l, w), deque.NewSteal(l, w)
		for range most {
			if !p.Step(b) || !q.Step(b) || !s.Step(b) {
				t.Errorf("a machine of the worker %d is not done", w)
			}
			checkPush(t, &p, false)
			checkPop(t, &q, 0, false)
			checkSteal(t, &s, 0, false, false)
		}
		checkHeld(t, b, l, w)
	}
	if !slices.Equal(b.All(), before) {
		t.Error("the bank has changed")
	}
}

// R1: machines on a bank that is none come to their ends, as its accesses return zero values, and have taken nothing.
func TestNoBank(t *testing.T) {
	l := mustPlan(t, 3, 2)
	copied := *mustNew(t, l)
	for _, b := range []*cells.Bank{nil, {}, &copied} {
		for w := range l.Workers {
			push(t, b, l, w, 5, 4, true)
			pop(t, b, l, w, 0, 4, false)
			steal(t, b, l, w, 0, 2, false)
			checkHeld(t, b, l, w)
		}
	}
}
