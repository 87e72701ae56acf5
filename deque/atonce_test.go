package deque_test

import (
	"runtime"
	"slices"
	"sync"
	"testing"

	"acequia/api"
	"acequia/cells"
	"acequia/deque"
)

// run makes all steps of a machine; false if it is not done in time.
func run(m stepper, b *cells.Bank) bool {
	for range most {
		if m.Step(b) {
			return true
		}
	}
	return false
}

// robber steals from a deque until stop is closed and nothing is left, and returns what it got, in this order; it gives up when it cannot come to an end.
func robber(l api.Layout, w int, b *cells.Bank, stop chan struct{}, n int) []int64 {
	var got []int64
	ended, more := false, 0
	for len(got) <= n && more <= n {
		s := deque.NewSteal(l, w)
		run(&s, b)
		v, ok := s.Got()
		if ok {
			got = append(got, v)
		} else if ended && !s.Lost() {
			break
		}
		if ended {
			more++
			continue
		}
		select {
		case <-stop:
			ended = true
		default:
			runtime.Gosched()
		}
	}
	return got
}

// keeper pushes 1, 2 and so on up to n, as often as it takes, and pops in between; it returns what it popped, and how many pushes were full.
func keeper(l api.Layout, w int, b *cells.Bank, n int64, every int) ([]int64, int) {
	var got []int64
	full := 0
	pop := func() {
		p := deque.NewPop(l, w)
		run(&p, b)
		if v, ok := p.Got(); ok {
			got = append(got, v)
		}
	}
	for v := int64(1); v <= n; v++ {
		p := deque.NewPush(l, w, v)
		run(&p, b)
		if !p.OK() {
			full++
			v--
			pop()
		} else if v%int64(every) == 0 {
			pop()
		}
		// A deque that is never filled shows nothing.
		if full > int(4*n) {
			break
		}
	}
	return got, full
}

// P11.3: an owner and several thieves at once: each number comes out once, and steals of each thief take them in the order in which they were pushed.
func TestAtOnce(t *testing.T) {
	const n, robbers = 20000, 4
	for _, verts := range []int{1, 2, 4, 64} {
		for _, every := range []int{1, 2, 3, 1000} {
			l := mustPlan(t, verts, 1)
			b := mustNew(t, l)
			stop := make(chan struct{})
			got := make([][]int64, robbers+1)
			var all sync.WaitGroup
			for who := range robbers {
				all.Go(func() { got[who] = robber(l, 0, b, stop, n) })
			}
			got[robbers], _ = keeper(l, 0, b, n, every)
			close(stop)
			all.Wait()
			for who := range robbers {
				if !slices.IsSorted(got[who]) {
					t.Fatalf("Room %d: the steals of %d are not in order", l.Room, who)
				}
			}
			checkEachOnce(t, append(slices.Concat(got...), deque.Held(l, 0, b)...), n)
		}
	}
}

// checkEachOnce checks that a list has 1, 2 and so on up to n, each once.
func checkEachOnce(t *testing.T, list []int64, n int) {
	t.Helper()
	slices.Sort(list)
	if len(list) != n {
		t.Fatalf("%d numbers came out, want %d", len(list), n)
	}
	for i, v := range list {
		if v != int64(i+1) {
			t.Fatalf("the number %d of what came out is %d", i+1, v)
		}
	}
}

// P11.3: several deques in one bank, whose owners steal from each other: nothing is lost, and nothing comes out twice.
func TestDequesAtOnce(t *testing.T) {
	const n, workers = 20000, 4
	l := mustPlan(t, 8, workers)
	b := mustNew(t, l)
	for _, cell := range []int{l.Deques - 1, 0} {
		b.Store(cell, 99)
	}
	got := make([][]int64, workers)
	var all sync.WaitGroup
	for who := range workers {
		all.Go(func() {
			for k := int64(1); k <= n; k++ {
				v := int64(who)*n + k
				p := deque.NewPush(l, who, v)
				if run(&p, b); !p.OK() {
					got[who] = append(got[who], v)
				}
				q := deque.NewPop(l, who)
				if run(&q, b); k%3 == 0 {
					s := deque.NewSteal(l, (who+int(k))%workers)
					run(&s, b)
					if v, ok := s.Got(); ok {
						got[who] = append(got[who], v)
					}
				}
				if v, ok := q.Got(); ok && k%2 == 0 {
					got[who] = append(got[who], v)
				} else if ok {
					again := deque.NewPush(l, who, v)
					if run(&again, b); !again.OK() {
						got[who] = append(got[who], v)
					}
				}
			}
		})
	}
	all.Wait()
	out := slices.Concat(got...)
	for w := range workers {
		out = append(out, deque.Held(l, w, b)...)
	}
	checkEachOnce(t, out, n*workers)
	for i, v := range b.All()[:l.Deques] {
		want := int64(0)
		if i == 0 || i == l.Deques-1 {
			want = 99
		}
		if v != want {
			t.Errorf("the cell %d, which is no deque's, has %d", i, v)
		}
	}
}

// P11.3: of the only number a pop and several steals at once get it just once, as goroutines.
func TestOnlyNumberAtOnce(t *testing.T) {
	const robbers, rounds = 3, 3000
	for _, verts := range []int{1, 4} {
		l := mustPlan(t, verts, 1)
		b := mustNew(t, l)
		for round := range int64(rounds) {
			push(t, b, l, 0, round, 4, true)
			p := deque.NewPop(l, 0)
			s := [robbers]deque.Steal{}
			var all sync.WaitGroup
			for i := range s {
				s[i] = deque.NewSteal(l, 0)
				all.Go(func() { run(&s[i], b) })
			}
			all.Go(func() { run(&p, b) })
			all.Wait()
			count := 0
			v, ok := p.Got()
			for i := -1; i < robbers; i++ {
				if i >= 0 {
					v, ok = s[i].Got()
				}
				if ok {
					count++
				}
				if ok && v != round {
					t.Fatalf("the round %d: %d came out", round, v)
				}
			}
			if count != 1 {
				t.Fatalf("the round %d: %d got the number", round, count)
			}
			checkHeld(t, b, l, 0)
			checkEnds(t, b, l, 0, round+1, round+1)
		}
	}
}
