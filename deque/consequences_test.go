package deque_test

import (
	"slices"
	"testing"

	"acequia/api"
	"acequia/cells"
	"acequia/deque"
)

// thieves is how many there are at most.
const thieves = 3

// world is a deque, its owner and thieves at one moment, and what has come in and out, in this order; as a plain value it is looked up in a map.
type world struct {
	top, bottom int64
	slots       [4]int64
	// op is how many pushes and pops the owner has done; steps those of the one under way.
	op, steps int
	push      deque.Push
	pop       deque.Pop
	steals    [thieves]deque.Steal
	// left is how many steals a thief has not done; at the steps of the one under way.
	left, at [thieves]int
	// in are the numbers that were pushed, out those that were popped, stolen those that were stolen.
	in, out, stolen string
}

// explorer goes through all orders of steps.
type explorer struct {
	t       *testing.T
	l       api.Layout
	b       *cells.Bank
	program string
	seen    map[world]bool
	ends    int
	full    int
	lost    int
}

// lay puts a world's cells into the bank, and take takes them out.
func (x *explorer) lay(w world) {
	setEnds(x.b, x.l, 0, w.top, w.bottom)
	for i := range x.l.Room {
		x.b.Store(cells.Slot(x.l, 0, int64(i)), w.slots[i])
	}
}

func (x *explorer) take(w world) world {
	w.top, w.bottom = x.b.Load(cells.Top(x.l, 0)), x.b.Load(cells.Bottom(x.l, 0))
	for i := range x.l.Room {
		w.slots[i] = x.b.Load(cells.Slot(x.l, 0, int64(i)))
	}
	return w
}

// owner makes the owner's next step: a '+' in the program pushes the next letter, a '-' pops.
func (x *explorer) owner(w world) world {
	x.lay(w)
	isPush := x.program[w.op] == '+'
	letter := 'a' + int64(w.op)
	if w.steps == 0 {
		w.push, w.pop = deque.NewPush(x.l, 0, letter), deque.NewPop(x.l, 0)
	}
	w.steps++
	if isPush && w.push.Step(x.b) {
		if w.push.OK() {
			w.in += string(rune(letter))
		} else {
			x.full++
		}
		w.op, w.steps, w.push, w.pop = w.op+1, 0, deque.Push{}, deque.Pop{}
	} else if !isPush && w.pop.Step(x.b) {
		if v, ok := w.pop.Got(); ok {
			w.out += string(rune(v))
		}
		w.op, w.steps, w.push, w.pop = w.op+1, 0, deque.Push{}, deque.Pop{}
	}
	if w.steps > 6 {
		x.t.Fatalf("%q: the operation %d takes more than 6 steps: %+v", x.program, w.op, w)
	}
	return x.take(w)
}

// thief makes the next step of the thief i.
func (x *explorer) thief(w world, i int) world {
	x.lay(w)
	if w.at[i] == 0 {
		w.steals[i] = deque.NewSteal(x.l, 0)
	}
	w.at[i]++
	if w.steals[i].Step(x.b) {
		if v, ok := w.steals[i].Got(); ok {
			w.stolen += string(rune(v))
		} else if w.steals[i].Lost() {
			x.lost++
		}
		w.steals[i], w.at[i] = deque.Steal{}, 0
		w.left[i]--
	}
	if w.at[i] > 4 {
		x.t.Fatalf("%q: a steal takes more than 4 steps: %+v", x.program, w)
	}
	return x.take(w)
}

// visit goes on from w in all ways.
func (x *explorer) visit(w world) {
	if x.seen[w] {
		return
	}
	x.seen[w] = true
	x.check(w)
	if w.op < len(x.program) {
		x.visit(x.owner(w))
	}
	for i, left := range w.left {
		if left > 0 {
			x.visit(x.thief(w, i))
		}
	}
	if w.op == len(x.program) && w.left == [thieves]int{} {
		x.ends++
	}
}

// check checks what holds at each moment, and what holds when no machine is at work.
func (x *explorer) check(w world) {
	taken := []byte(w.out + w.stolen)
	slices.Sort(taken)
	if len(slices.Compact(slices.Clone(taken))) != len(taken) {
		x.t.Fatalf("%q: a number is taken twice: %+v", x.program, w)
	}
	if !slices.IsSorted([]byte(w.stolen)) {
		x.t.Fatalf("%q: steals take numbers in another order than they were pushed: %+v", x.program, w)
	}
	var rest []int64
	for _, v := range []byte(w.in) {
		if at, found := slices.BinarySearch(taken, v); found {
			taken = slices.Delete(taken, at, at+1)
		} else {
			rest = append(rest, int64(v))
		}
	}
	if len(taken) > 0 {
		x.t.Fatalf("%q: %q were taken and not pushed: %+v", x.program, taken, w)
	}
	if w.steps > 0 || w.at != [thieves]int{} {
		return
	}
	x.lay(w)
	if held := deque.Held(x.l, 0, x.b); !slices.Equal(held, rest) {
		x.t.Fatalf("%q: the contents are %v, want %v: %+v", x.program, held, rest, w)
	}
}

// explore goes through all orders of steps of the owner with this program, and of thieves with so many steals each.
func explore(t *testing.T, l api.Layout, program string, steals ...int) *explorer {
	t.Helper()
	x := &explorer{t: t, l: l, b: mustNew(t, l), program: program, seen: map[world]bool{}}
	var w world
	copy(w.left[:], steals)
	x.visit(w)
	if x.ends == 0 {
		t.Fatalf("%q: no order of steps comes to its end", program)
	}
	return x
}

// programs are all rows of so many pushes and pops.
func programs(n int) []string {
	if n == 0 {
		return []string{""}
	}
	var list []string
	for _, p := range programs(n - 1) {
		list = append(list, p+"+", p+"-")
	}
	return list
}

// P11.3: all orders of steps of all short rows of pushes and pops, and of a thief's steals.
func TestAllOrdersWithOneThief(t *testing.T) {
	full, lost := 0, 0
	for _, verts := range []int{1, 2, 4} {
		l := mustPlan(t, verts, 1)
		for n := range 7 {
			for _, p := range programs(n) {
				x := explore(t, l, p, 3)
				full += x.full
				lost += x.lost
			}
		}
	}
	if full == 0 || lost == 0 {
		t.Errorf("%d pushes were full, %d steals lost", full, lost)
	}
}

// P11.3: all orders of steps with two thieves, who steal again.
func TestAllOrdersWithTwoThieves(t *testing.T) {
	for _, verts := range []int{1, 2} {
		l := mustPlan(t, verts, 1)
		for n := range 5 {
			for _, p := range programs(n) {
				explore(t, l, p, 2, 1)
			}
		}
		explore(t, l, "++-+-", 2, 2)
	}
}

// P11.3: all orders of steps with three thieves.
func TestAllOrdersWithThreeThieves(t *testing.T) {
	for _, verts := range []int{1, 2} {
		l := mustPlan(t, verts, 1)
		for _, p := range []string{"+", "+-", "++-", "+-+"} {
			explore(t, l, p, 1, 1, 1)
		}
	}
}

// orders calls f with all rows of the numbers below len(counts) in which each comes so often.
func orders(counts []int, row []int, f func(row []int)) {
	done := true
	for i := range counts {
		if counts[i] > 0 {
			done = false
			counts[i]--
			orders(counts, append(row, i), f)
			counts[i]++
		}
	}
	if done {
		f(row)
	}
}

// P11.3: of the only number that a deque holds a pop and two steals get it just once, whatever the order of their steps; each of them gets it in some order.
func TestOnlyNumber(t *testing.T) {
	for _, verts := range []int{1, 2} {
		l := mustPlan(t, verts, 1)
		b := mustNew(t, l)
		won := [3]int{}
		orders([]int{6, 4, 4}, nil, func(row []int) {
			setEnds(b, l, 0, 5, 6)
			b.Store(cells.Slot(l, 0, 5), 44)
			pop, first, second := deque.NewPop(l, 0), deque.NewSteal(l, 0), deque.NewSteal(l, 0)
			machines := [3]stepper{&pop, &first, &second}
			for _, i := range row {
				machines[i].Step(b)
			}
			got := 0
			for i, m := range []interface{ Got() (int64, bool) }{&pop, &first, &second} {
				v, ok := m.Got()
				if ok {
					got++
					won[i]++
				}
				if ok != (v == 44) || !ok && v != 0 || !machines[i].Step(b) {
					t.Fatalf("%v: the machine %d has got %d, %t", row, i, v, ok)
				}
			}
			if got != 1 {
				t.Fatalf("%v: %d machines have got the number", row, got)
			}
			checkEnds(t, b, l, 0, 6, 6)
		})
		if slices.Min(won[:]) == 0 {
			t.Errorf("they have won %v times", won)
		}
	}
}

// P11.3: without thieves the owner takes the number that was pushed last, for all short rows of pushes and pops.
func TestLastPushedFirst(t *testing.T) {
	for _, verts := range []int{1, 2, 4} {
		l := mustPlan(t, verts, 1)
		for _, program := range programs(9) {
			b := mustNew(t, l)
			var in []int64
			for v, op := range program {
				switch {
				case op == '+':
					ok := len(in) < l.Room
					steps := 2
					if ok {
						in, steps = append(in, int64(v)), 4
					}
					push(t, b, l, 0, int64(v), steps, ok)
				case len(in) == 0:
					pop(t, b, l, 0, 0, 4, false)
				default:
					last := len(in) - 1
					steps := 4
					if last == 0 {
						steps = 6
					}
					pop(t, b, l, 0, in[last], steps, true)
					in = in[:last]
				}
				checkHeld(t, b, l, 0, in...)
			}
		}
	}
}

// P11.3: a thief that slept while its slot was used again does not get the number that is there now.
func TestSlowThief(t *testing.T) {
	l := mustPlan(t, 2, 1)
	b := mustNew(t, l)
	push(t, b, l, 0, 1, 4, true)
	for k := range 4 {
		s := deque.NewSteal(l, 0)
		for range k {
			s.Step(b)
		}
		first := deque.Held(l, 0, b)[0]
		steal(t, b, l, 0, first, 4, true)
		for v := range int64(2) {
			push(t, b, l, 0, 10*int64(k)+v+20, 4, true)
		}
		finish(t, &s, b)
		v, ok := s.Got()
		if k < 1 {
			checkSteal(t, &s, 20, true, false)
		} else if ok || v != 0 || !s.Lost() {
			t.Errorf("a steal that slept behind its step %d got %d, %t", k, v, ok)
		}
		for len(deque.Held(l, 0, b)) > 1 {
			finish(t, new(deque.NewSteal(l, 0)), b)
		}
	}
}
