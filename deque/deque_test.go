package deque_test

import (
	"slices"
	"testing"

	"acequia/api"
	"acequia/cells"
	"acequia/deque"
)

// stepper is what all machines can do.
type stepper interface{ Step(b *cells.Bank) bool }

// most is more steps than any machine makes.
const most = 10

// mustPlan is a layout for so many vertices and workers, with some residual arcs ahead of it all.
func mustPlan(t *testing.T, verts, workers int) api.Layout {
	t.Helper()
	l, err := cells.Plan(verts, 3, workers)
	if err != api.OK {
		t.Fatalf("Plan(%d, 3, %d) has the error %d", verts, workers, err)
	}
	return l
}

// mustNew is a bank for l, with 0 in each cell.
func mustNew(t *testing.T, l api.Layout) *cells.Bank {
	t.Helper()
	b, err := cells.New(l.Size)
	if err != api.OK {
		t.Fatalf("New(%d) has the error %d", l.Size, err)
	}
	return b
}

// finish makes all steps of a machine, and returns how many there were.
func finish(t *testing.T, m stepper, b *cells.Bank) int {
	t.Helper()
	for steps := 1; steps <= most; steps++ {
		if m.Step(b) {
			return steps
		}
	}
	t.Fatalf("%T is not done after %d steps", m, most)
	return 0
}

// push pushes v, and checks how many steps it takes, and whether it was stored.
func push(t *testing.T, b *cells.Bank, l api.Layout, w int, v int64, steps int, ok bool) {
	t.Helper()
	p := deque.NewPush(l, w, v)
	if got := finish(t, &p, b); got != steps || p.OK() != ok {
		t.Fatalf("the push of %d takes %d steps, OK is %t, want %d and %t", v, got, p.OK(), steps, ok)
	}
}

// pop pops, and checks how many steps it takes, and what it gets.
func pop(t *testing.T, b *cells.Bank, l api.Layout, w int, v int64, steps int, ok bool) {
	t.Helper()
	p := deque.NewPop(l, w)
	n := finish(t, &p, b)
	if got, has := p.Got(); n != steps || got != v || has != ok {
		t.Fatalf("a pop takes %d steps and gets %d, %t, want %d, and %d, %t", n, got, has, steps, v, ok)
	}
}

// steal steals with nobody else at work, and checks how many steps it takes, and what it gets.
func steal(t *testing.T, b *cells.Bank, l api.Layout, w int, v int64, steps int, ok bool) {
	t.Helper()
	s := deque.NewSteal(l, w)
	n := finish(t, &s, b)
	if got, has := s.Got(); n != steps || got != v || has != ok || s.Lost() {
		t.Fatalf("a steal takes %d steps and gets %d, %t, lost is %t, want %d, and %d, %t", n, got, has, s.Lost(), steps, v, ok)
	}
}

// checkHeld compares the contents of a deque to what they should be.
func checkHeld(t *testing.T, b *cells.Bank, l api.Layout, w int, want ...int64) {
	t.Helper()
	if got := deque.Held(l, w, b); !slices.Equal(got, want) {
		t.Fatalf("Held of %d is %v, want %v", w, got, want)
	}
}

// checkEnds compares the top and the bottom of a deque to what they should be.
func checkEnds(t *testing.T, b *cells.Bank, l api.Layout, w int, top, bottom int64) {
	t.Helper()
	if x, y := b.Load(cells.Top(l, w)), b.Load(cells.Bottom(l, w)); x != top || y != bottom {
		t.Fatalf("the top of %d is %d, its bottom %d, want %d and %d", w, x, y, top, bottom)
	}
}

// P11.1, P11.2: the examples of the chapter.
func TestExamples(t *testing.T) {
	l := mustPlan(t, 3, 2)
	if l.Room != 4 {
		t.Fatalf("the Room is %d", l.Room)
	}
	for w := range l.Workers {
		b := mustNew(t, l)
		pop(t, b, l, w, 0, 4, false)
		steal(t, b, l, w, 0, 2, false)
		push(t, b, l, w, 7, 4, true)
		push(t, b, l, w, 8, 4, true)
		checkHeld(t, b, l, w, 7, 8)
		steal(t, b, l, w, 7, 4, true)
		checkHeld(t, b, l, w, 8)
		pop(t, b, l, w, 8, 6, true)
		checkHeld(t, b, l, w)
		push(t, b, l, w, 7, 4, true)
		push(t, b, l, w, 8, 4, true)
		pop(t, b, l, w, 8, 4, true)
		checkHeld(t, b, l, w, 7)
	}
}

// oddNumbers are numbers of all kinds, to push.
func oddNumbers() []int64 {
	return []int64{0, 1, -1, 5, 1<<32 + 1, 1<<62 + 3, -1 << 62, 1<<63 - 1, -1 << 63}
}

// P11.1: numbers of all kinds are pushed and come out as they are, from both ends.
func TestAnyNumbers(t *testing.T) {
	l := mustPlan(t, 2, 1)
	b := mustNew(t, l)
	for _, v := range oddNumbers() {
		push(t, b, l, 0, v, 4, true)
		checkHeld(t, b, l, 0, v)
		pop(t, b, l, 0, v, 6, true)
		push(t, b, l, 0, v, 4, true)
		steal(t, b, l, 0, v, 4, true)
		push(t, b, l, 0, 9, 4, true)
		push(t, b, l, 0, v, 4, true)
		checkHeld(t, b, l, 0, 9, v)
		pop(t, b, l, 0, v, 4, true)
		steal(t, b, l, 0, 9, 4, true)
	}
}

// P11.1, P11.2: a deque is filled up to its Room, is full then, has room again after a pop, or a steal, and is emptied from one end.
func TestFillAndEmpty(t *testing.T) {
	for _, verts := range []int{0, 1, 2, 3, 4, 8, 13} {
		l := mustPlan(t, verts, 3)
		for w := range l.Workers {
			b := mustNew(t, l)
			for _, stolen := range []bool{false, true} {
				fill(t, b, l, w)
				empty(t, b, l, w, stolen)
			}
		}
	}
}

// fill pushes 1, 2 and so on till the deque is full, with one more in between.
func fill(t *testing.T, b *cells.Bank, l api.Layout, w int) {
	t.Helper()
	var in []int64
	for v := int64(1); v <= int64(l.Room); v++ {
		push(t, b, l, w, v, 4, true)
		in = append(in, v)
		checkHeld(t, b, l, w, in...)
	}
	room := int64(l.Room)
	for range 3 {
		push(t, b, l, w, 77, 2, false)
		checkHeld(t, b, l, w, in...)
	}
	steps := 4
	if l.Room == 1 {
		steps = 6
	}
	pop(t, b, l, w, room, steps, true)
	checkHeld(t, b, l, w, in[:room-1]...)
	push(t, b, l, w, room, 4, true)
	push(t, b, l, w, 77, 2, false)
	steal(t, b, l, w, 1, 4, true)
	push(t, b, l, w, room+1, 4, true)
	push(t, b, l, w, 77, 2, false)
	checkHeld(t, b, l, w, append(slices.Clone(in[1:]), room+1)...)
}

// empty takes all that fill has left, and finds nothing then.
func empty(t *testing.T, b *cells.Bank, l api.Layout, w int, stolen bool) {
	t.Helper()
	for k := range int64(l.Room) {
		switch {
		case stolen:
			steal(t, b, l, w, k+2, 4, true)
		case k == int64(l.Room)-1:
			pop(t, b, l, w, 2, 6, true)
		default:
			pop(t, b, l, w, int64(l.Room)+1-k, 4, true)
		}
	}
	for range 3 {
		pop(t, b, l, w, 0, 4, false)
		steal(t, b, l, w, 0, 2, false)
		checkHeld(t, b, l, w)
	}
}

// next is the next one of a row of numbers that look like chance.
func next(seed *uint64) int {
	*seed = *seed*6364136223846793005 + 1442695040888963407
	return int(*seed >> 33)
}

// P11.1 to P11.3: long rows of pushes, pops and steals of all deques, one after the other, do what lists would do; slots are used again and again.
func TestManyOneByOne(t *testing.T) {
	seed := uint64(5)
	for _, verts := range []int{1, 2, 4, 5} {
		l := mustPlan(t, verts, 3)
		b := mustNew(t, l)
		lists := make([][]int64, l.Workers)
		full, none, went := 0, 0, 0
		for v := range int64(4000) {
			w := next(&seed) % l.Workers
			list := lists[w]
			n := len(list)
			switch kind := next(&seed) % 4; {
			case kind < 2 && n == l.Room:
				push(t, b, l, w, v, 2, false)
				full++
			case kind < 2:
				push(t, b, l, w, v, 4, true)
				lists[w] = append(list, v)
				went++
			case n == 0:
				pop(t, b, l, w, 0, 4, false)
				steal(t, b, l, w, 0, 2, false)
				none++
			case kind == 2:
				steps := 4
				if n == 1 {
					steps = 6
				}
				pop(t, b, l, w, list[n-1], steps, true)
				lists[w] = list[:n-1]
			default:
				steal(t, b, l, w, list[0], 4, true)
				lists[w] = slices.Clone(list[1:])
			}
			for x, want := range lists {
				checkHeld(t, b, l, x, want...)
			}
		}
		if full < 100 || none < 100 || went < 100*l.Room {
			t.Errorf("Room %d: %d were full, %d empty, %d went in", l.Room, full, none, went)
		}
	}
}

// setEnds sets the top and the bottom of a deque.
func setEnds(b *cells.Bank, l api.Layout, w int, top, bottom int64) {
	b.Store(cells.Top(l, w), top)
	b.Store(cells.Bottom(l, w), bottom)
}

// P11.2: the contents of deques that are empty, full, and whose slots go round; such whose top is greater than the bottom have none.
func TestHeld(t *testing.T) {
	for _, verts := range []int{1, 2, 4, 7} {
		l := mustPlan(t, verts, 3)
		room := int64(l.Room)
		for w := range l.Workers {
			b := mustNew(t, l)
			for i := range l.Size {
				b.Store(i, int64(1000+i))
			}
			for _, top := range []int64{0, 1, 2, room - 1, room, room + 1, 5*room + 1, 1 << 40, 1<<62 + 1} {
				for n := range room + 1 {
					setEnds(b, l, w, top, top+n)
					want := make([]int64, n)
					for i := range n {
						first := int64(l.Deques + w*(l.Room+2) + 2)
						want[i] = 1000 + first + (top+i)%room
					}
					checkHeld(t, b, l, w, want...)
				}
				setEnds(b, l, w, top, top+room+2)
				if held := deque.Held(l, w, b); len(held) != int(room) {
					t.Errorf("Held of more than the Room is %v", held)
				}
				for less := range int64(4) {
					setEnds(b, l, w, top, top-less)
					checkHeld(t, b, l, w)
				}
			}
		}
	}
}

// P11.2: the contents during a pop, whose bottom is less by one: those that are not the pop's; none of an empty deque, below 0 among them.
func TestHeldDuringPop(t *testing.T) {
	l := mustPlan(t, 4, 1)
	b := mustNew(t, l)
	p := deque.NewPop(l, 0)
	for range 3 {
		p.Step(b)
	}
	checkEnds(t, b, l, 0, 0, -1)
	checkHeld(t, b, l, 0)
	p.Step(b)
	checkEnds(t, b, l, 0, 0, 0)
	checkHeld(t, b, l, 0)
	for v := range int64(3) {
		push(t, b, l, 0, v, 4, true)
	}
	q := deque.NewPop(l, 0)
	for range 2 {
		q.Step(b)
	}
	checkHeld(t, b, l, 0, 0, 1)
}
