package deque_test

import (
	"slices"
	"testing"

	"acequia/api"
	"acequia/cells"
	"acequia/deque"
)

// row is one access: the cell that it should touch, what is there before, and what should be there behind it; whether the machine should be done then.
type row struct {
	cell          int
	before, after int64
	done          bool
}

// walk makes the steps of a machine, each on a bank that has the right number in that one cell, and numbers that make no sense in all others: an access to another cell leads astray, or leaves its trace.
func walk(t *testing.T, name string, l api.Layout, m stepper, rows []row) {
	t.Helper()
	b := mustNew(t, l)
	for k, r := range rows {
		for i := range l.Size {
			b.Store(i, int64(-1000*(k+1)-i))
		}
		b.Store(r.cell, r.before)
		want := b.All()
		want[r.cell] = r.after
		if done := m.Step(b); done != r.done {
			t.Fatalf("%s: the step %d reports %t, want %t", name, k+1, done, r.done)
		}
		if all := b.All(); !slices.Equal(all, want) {
			t.Fatalf("%s: the step %d leads to %v, want %v", name, k+1, all, want)
		}
	}
	checkDone(t, name, m, b)
}

// checkDone checks that a machine makes no access any more, and reports that it is done: the bank stays, whatever is in it, and so does the machine.
func checkDone(t *testing.T, name string, m stepper, b *cells.Bank) {
	t.Helper()
	for k := range int64(3 * most) {
		for i := range b.Len() {
			b.Store(i, k%5-int64(i)*(k%2))
		}
		want := b.All()
		if !m.Step(b) {
			t.Fatalf("%s: it is not done any more", name)
		}
		if !slices.Equal(b.All(), want) {
			t.Fatalf("%s: it makes an access when it is done", name)
		}
	}
}

// places are the deques of the first, of a middle and of the last worker, in layouts with several Rooms.
func places(t *testing.T, f func(l api.Layout, w int)) {
	t.Helper()
	for _, verts := range []int{0, 1, 2, 3, 4, 5, 8} {
		l := mustPlan(t, verts, 3)
		for w := range l.Workers {
			f(l, w)
		}
	}
}

// tops are tops of a deque that has been used for long, or not at all.
func tops(room int) []int64 {
	r := int64(room)
	return []int64{0, 1, r - 1, r, r + 1, 3*r + 2, 1 << 33, 1<<50 + 1}
}

// wantCells are the cells of a deque: its top, its bottom, and the one of a slot.
func wantCells(l api.Layout, w int, at int64) (int, int, int) {
	first := l.Size - (l.Workers-w)*(l.Room+2)
	return first, first + 1, first + 2 + int(at%int64(l.Room))
}

// checkPush compares what a push tells to what it should.
func checkPush(t *testing.T, p *deque.Push, ok bool) {
	t.Helper()
	if p.OK() != ok {
		t.Fatalf("OK is %t, want %t", p.OK(), ok)
	}
}

// P11.1: the accesses of a push with room for at least one, in each row of the table.
func TestPushAccesses(t *testing.T) {
	places(t, func(l api.Layout, w int) {
		for _, top := range tops(l.Room) {
			for n := range int64(l.Room) {
				bottom := top + n
				T, B, S := wantCells(l, w, bottom)
				p := deque.NewPush(l, w, 55)
				walk(t, "a push", l, &p, []row{
					{B, bottom, bottom, false},
					{T, top, top, false},
					{S, 8, 55, false},
					{B, 8, bottom + 1, true},
				})
				checkPush(t, &p, true)
			}
		}
	})
}

// P11.1: the accesses of a push into a deque that is full, or more than that.
func TestPushAccessesWhenFull(t *testing.T) {
	places(t, func(l api.Layout, w int) {
		for _, top := range tops(l.Room) {
			for more := range int64(3) {
				bottom := top + int64(l.Room) + more
				T, B, _ := wantCells(l, w, bottom)
				p := deque.NewPush(l, w, 55)
				walk(t, "a push that is full", l, &p, []row{{B, bottom, bottom, false}, {T, top, top, true}})
				checkPush(t, &p, false)
			}
		}
	})
}

// P11.1: a push goes by the bottom and the top that it has read, and its last number is made of them.
func TestPushReadsOnce(t *testing.T) {
	l := mustPlan(t, 2, 1)
	b := mustNew(t, l)
	p := deque.NewPush(l, 0, 6)
	p.Step(b)
	setEnds(b, l, 0, 3, 7)
	p.Step(b)
	setEnds(b, l, 0, -5, 9)
	p.Step(b)
	if got := b.Load(cells.Slot(l, 0, 0)); got != 6 {
		t.Errorf("the slot 0 has %d", got)
	}
	if !p.Step(b) || !p.OK() {
		t.Error("the push is not done")
	}
	checkEnds(t, b, l, 0, -5, 1)
}

// checkPop compares what a pop tells to what it should.
func checkPop(t *testing.T, p *deque.Pop, v int64, ok bool) {
	t.Helper()
	if got, has := p.Got(); got != v || has != ok {
		t.Fatalf("Got is %d, %t, want %d, %t", got, has, v, ok)
	}
}

// P11.1: the accesses of a pop of an empty deque; the top may have gone beyond the bottom.
func TestPopAccessesWhenEmpty(t *testing.T) {
	places(t, func(l api.Layout, w int) {
		for _, bottom := range tops(l.Room) {
			for more := range int64(3) {
				T, B, _ := wantCells(l, w, 0)
				p := deque.NewPop(l, w)
				walk(t, "a pop of nothing", l, &p, []row{
					{B, bottom, bottom, false},
					{B, 9, bottom - 1, false},
					{T, bottom + more, bottom + more, false},
					{B, 9, bottom, true},
				})
				checkPop(t, &p, 0, false)
			}
		}
	})
}

// P11.1: the accesses of a pop of a deque that holds more than one number.
func TestPopAccessesOfMore(t *testing.T) {
	places(t, func(l api.Layout, w int) {
		for _, top := range tops(l.Room) {
			for n := int64(2); n <= int64(l.Room); n++ {
				T, B, S := wantCells(l, w, top+n-1)
				p := deque.NewPop(l, w)
				walk(t, "a pop", l, &p, []row{
					{B, top + n, top + n, false},
					{B, 9, top + n - 1, false},
					{T, top, top, false},
					{S, 33, 33, true},
				})
				checkPop(t, &p, 33, true)
			}
		}
	})
}

// P11.1: the accesses of a pop of the only number, which it gets, or which somebody else has got.
func TestPopAccessesOfTheLast(t *testing.T) {
	places(t, func(l api.Layout, w int) {
		for _, top := range tops(l.Room) {
			for more := range int64(3) {
				T, B, S := wantCells(l, w, top)
				now, v := top+1, int64(33)
				if more > 0 {
					now, v = top+more, 0
				}
				p := deque.NewPop(l, w)
				walk(t, "a pop of the last", l, &p, []row{
					{B, top + 1, top + 1, false},
					{B, 9, top, false},
					{T, top, top, false},
					{S, 33, 33, false},
					{T, top + more, now, false},
					{B, 9, top + 1, true},
				})
				checkPop(t, &p, v, more == 0)
			}
		}
	})
}

// checkSteal compares what a steal tells to what it should.
func checkSteal(t *testing.T, s *deque.Steal, v int64, ok, lost bool) {
	t.Helper()
	if got, has := s.Got(); got != v || has != ok || s.Lost() != lost {
		t.Fatalf("Got is %d, %t, Lost %t, want %d, %t, %t", got, has, s.Lost(), v, ok, lost)
	}
}

// P11.1: the accesses of a steal from an empty deque; the bottom may be less than the top.
func TestStealAccessesWhenEmpty(t *testing.T) {
	places(t, func(l api.Layout, w int) {
		for _, top := range tops(l.Room) {
			for less := range int64(3) {
				T, B, _ := wantCells(l, w, 0)
				s := deque.NewSteal(l, w)
				walk(t, "a steal of nothing", l, &s, []row{{T, top, top, false}, {B, top - less, top - less, true}})
				checkSteal(t, &s, 0, false, false)
			}
		}
	})
}

// P11.1: the accesses of a steal from a deque that holds one number or more, which gets the first one, or is lost.
func TestStealAccesses(t *testing.T) {
	places(t, func(l api.Layout, w int) {
		for _, top := range tops(l.Room) {
			for n := int64(1); n <= int64(l.Room); n++ {
				for more := range int64(3) {
					T, B, S := wantCells(l, w, top)
					now, v := top+1, int64(33)
					if more > 0 {
						now, v = top+more, 0
					}
					s := deque.NewSteal(l, w)
					walk(t, "a steal", l, &s, []row{
						{T, top, top, false},
						{B, top + n, top + n, false},
						{S, 33, 33, false},
						{T, top + more, now, true},
					})
					checkSteal(t, &s, v, more == 0, more > 0)
				}
			}
		}
	})
}

// P11.1: a machine that is not done has stored nothing, got nothing and lost nothing, and stays so while it is asked.
func TestNotDoneYet(t *testing.T) {
	l := mustPlan(t, 4, 1)
	b := mustNew(t, l)
	push(t, b, l, 0, 5, 4, true)
	p, q, s := deque.NewPush(l, 0, 6), deque.NewPop(l, 0), deque.NewSteal(l, 0)
	for range 3 {
		checkPush(t, &p, false)
		p.Step(b)
	}
	checkPush(t, &p, false)
	if !p.Step(b) {
		t.Fatal("the push is not done")
	}
	checkPush(t, &p, true)
	steal(t, b, l, 0, 5, 4, true)
	for range 5 {
		checkPop(t, &q, 0, false)
		q.Step(b)
	}
	checkPop(t, &q, 0, false)
	if !q.Step(b) {
		t.Fatal("the pop is not done")
	}
	checkPop(t, &q, 6, true)
	push(t, b, l, 0, 7, 4, true)
	for range 3 {
		checkSteal(t, &s, 0, false, false)
		s.Step(b)
	}
	checkSteal(t, &s, 0, false, false)
	if !s.Step(b) {
		t.Fatal("the steal is not done")
	}
	checkSteal(t, &s, 7, true, false)
}

// P11.1: the results of a machine stay when others have gone on, and when it is stepped on another bank.
func TestResultsStay(t *testing.T) {
	l := mustPlan(t, 2, 1)
	b := mustNew(t, l)
	p, q, s, lost := deque.NewPush(l, 0, 6), deque.NewPop(l, 0), deque.NewSteal(l, 0), deque.NewSteal(l, 0)
	finish(t, &p, b)
	for range 3 {
		lost.Step(b)
	}
	finish(t, &q, b)
	finish(t, &lost, b)
	push(t, b, l, 0, 7, 4, true)
	finish(t, &s, b)
	for _, b := range []*cells.Bank{b, mustNew(t, l), nil} {
		for range most {
			p.Step(b)
			q.Step(b)
			s.Step(b)
			lost.Step(b)
		}
		checkPush(t, &p, true)
		checkPop(t, &q, 6, true)
		checkSteal(t, &s, 7, true, false)
		checkSteal(t, &lost, 0, false, true)
	}
	checkEnds(t, b, l, 0, 2, 2)
}

// copies runs a machine and its copies, one made behind each step, on banks of their own, and checks that all come to the same end; made returns a bank and a machine, copied another one in the same place.
func copies[M comparable](t *testing.T, fill func(b *cells.Bank), first M, l api.Layout, step func(*M, *cells.Bank) bool) {
	t.Helper()
	whole, end := mustNew(t, l), first
	fill(whole)
	steps := 0
	for !step(&end, whole) {
		if steps++; steps > most {
			t.Fatalf("%T is not done", first)
		}
	}
	for k := range steps + 1 {
		b, m := mustNew(t, l), first
		fill(b)
		for range k {
			step(&m, b)
		}
		twin, kept, other := m, m, mustNew(t, l)
		for i, v := range b.All() {
			other.Store(i, v)
		}
		for range most {
			step(&twin, other)
		}
		if m != kept {
			t.Errorf("%T: the steps of a copy change the machine, behind the step %d", first, k)
		}
		if !slices.Equal(other.All(), whole.All()) || twin != end {
			t.Errorf("%T: a copy behind the step %d comes to %v, want %v", first, k, other.All(), whole.All())
		}
		for range most {
			step(&m, b)
		}
		if !slices.Equal(b.All(), whole.All()) || m != end {
			t.Errorf("%T: the machine comes to %v, want %v, as a copy was made behind the step %d", first, b.All(), whole.All(), k)
		}
	}
}

// P11.1: copies of a machine, behind any of its steps, go on independently.
func TestCopies(t *testing.T) {
	l := mustPlan(t, 3, 2)
	for n := range l.Room + 1 {
		fill := func(b *cells.Bank) {
			for v := range int64(n) {
				push(t, b, l, 1, v+5, 4, true)
			}
		}
		copies(t, fill, deque.NewPush(l, 1, 9), l, (*deque.Push).Step)
		copies(t, fill, deque.NewPop(l, 1), l, (*deque.Pop).Step)
		copies(t, fill, deque.NewSteal(l, 1), l, (*deque.Steal).Step)
	}
}
