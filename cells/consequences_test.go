package cells_test

import (
	"slices"
	"sync"
	"testing"

	"acequia/cells"
)

// side runs f once for each of so many goroutines, which all begin at once, and waits for all.
func side(count int, f func(who int)) {
	var all sync.WaitGroup
	begin := make(chan struct{})
	for who := range count {
		all.Go(func() {
			<-begin
			f(who)
		})
	}
	close(begin)
	all.Wait()
}

// P10.4: the result of additions is the same in every order of them, those that wrap around among them.
func TestAdditionsInAnyOrder(t *testing.T) {
	var orders func(rest, done []int64, f func([]int64))
	orders = func(rest, done []int64, f func([]int64)) {
		if len(rest) == 0 {
			f(done)
		}
		for i, d := range rest {
			others := append(slices.Clone(rest[:i]), rest[i+1:]...)
			orders(others, append(slices.Clone(done), d), f)
		}
	}
	tried := 0
	for _, list := range [][]int64{{1, 2, 3}, {-5, 5, 7, -8}, {1 << 62, 1 << 62, 1, -1 << 63, -1}, {-1 << 63, -1 << 63, 1<<63 - 1, 1<<63 - 1, 6}} {
		for _, start := range numbers() {
			want := start
			for _, d := range list {
				want += d
			}
			orders(list, nil, func(l []int64) {
				b := filled(t, 4, start, 4)
				last := start
				for _, d := range l {
					last = b.Add(1, d)
				}
				if last != want {
					t.Fatalf("%d and %v are %d, want %d", start, l, last, want)
				}
				checkAll(t, "in any order", b, []int64{4, want, 4})
				tried++
			})
		}
	}
	if tried < 1000 {
		t.Errorf("only %d orders have been tried", tried)
	}
}

// P10.4: additions by several goroutines at once have the result that they have one by one; nothing is lost.
func TestAdditionsAtOnce(t *testing.T) {
	const count, times = 8, 20000
	b := mustNew(t, 3)
	side(count, func(who int) {
		for k := range times {
			b.Add(0, 1)
			b.Add(1, int64(who*k)<<40)
			b.Add(2, int64(1-2*(k%2)))
		}
	})
	var want int64
	for who := range count {
		for k := range times {
			want += int64(who*k) << 40
		}
	}
	checkAll(t, "at once", b, []int64{count * times, want, 0})
}

// P10.3: of additions of 1 by several goroutines at once each returns a number of its own.
func TestAdditionsReturnWhatTheyMade(t *testing.T) {
	const count, times = 8, 10000
	b := mustNew(t, 1)
	got := make([][]int64, count)
	side(count, func(who int) {
		for range times {
			got[who] = append(got[who], b.Add(0, 1))
		}
	})
	all := slices.Concat(got...)
	slices.Sort(all)
	for i, v := range all {
		if v != int64(i+1) {
			t.Fatalf("the number %d of all results is %d", i+1, v)
		}
	}
	for who, list := range got {
		if !slices.IsSorted(list) {
			t.Errorf("the results of %d do not grow", who)
		}
	}
}

// P10.4: of several goroutines that CAS a cell from the same number just one succeeds, and the cell has its number.
func TestOneCASSucceeds(t *testing.T) {
	const count, rooms = 8, 1 << 14
	b := mustNew(t, rooms)
	for round := range 8 {
		won := make([][]int, count)
		old := b.All()
		side(count, func(who int) {
			for i := range rooms {
				if b.CAS(i, old[i], int64(round*count+who+1)) {
					won[who] = append(won[who], i)
				}
			}
		})
		winners := make([]int, rooms)
		for who, list := range won {
			for _, i := range list {
				winners[i]++
				if got := b.Load(i); got != int64(round*count+who+1) {
					t.Fatalf("%d has won the cell %d, which has %d", who, i, got)
				}
			}
		}
		for i, k := range winners {
			if k != 1 {
				t.Fatalf("%d have won the cell %d", k, i)
			}
		}
	}
}

// P10.3: additions, and a CAS again and again till it succeeds, lose nothing of each other in one cell.
func TestAllKindsAtOnce(t *testing.T) {
	const count, times = 8, 5000
	b := mustNew(t, 1)
	// A CAS fails only if another access has succeeded in between.
	raise := func() bool {
		for range count*times + 1 {
			if v := b.Load(0); b.CAS(0, v, v+1) {
				return true
			}
		}
		return false
	}
	side(count, func(who int) {
		for range times {
			if who%2 == 0 {
				b.Add(0, 1)
			} else if !raise() {
				return
			}
		}
	})
	checkAll(t, "of all kinds", b, []int64{count * times})
}

// P10.3: of a Store and of a Load at once the number is whole: it is one of those that were stored.
func TestNumbersAreWhole(t *testing.T) {
	const count, times = 6, 20000
	b := mustNew(t, 1)
	odd := make([]int64, count)
	side(count, func(who int) {
		v := int64(who) * 0x0101010101010101
		for range times {
			b.Store(0, v)
			got := b.Load(0)
			if all := b.All(); got%0x0101010101010101 != 0 || all[0]%0x0101010101010101 != 0 {
				odd[who] = got
			}
		}
	})
	for who, v := range odd {
		if v != 0 {
			t.Errorf("%d has read %x", who, v)
		}
	}
}

// P10.4: accesses by several goroutines, each to a cell of its own, change no other one.
func TestNeighboursAtOnce(t *testing.T) {
	const count, times = 8, 5000
	b := mustNew(t, count)
	wrong := make([]int, count)
	side(count, func(who int) {
		for k := range int64(times) {
			b.Store(who, k)
			if b.Load(who) != k || b.Add(who, -1) != k-1 || !b.CAS(who, k-1, 2*k) || b.Load(who) != 2*k {
				wrong[who]++
			}
		}
	})
	want := slices.Repeat([]int64{2 * (times - 1)}, count)
	checkAll(t, "neighbours", b, want)
	if slices.Max(wrong) != 0 {
		t.Errorf("numbers have changed: %v", wrong)
	}
}

// P10.3: cells that are none, and banks that are none, stay so for several goroutines at once.
func TestNothingAtOnce(t *testing.T) {
	b := mustNew(t, 2)
	var none *cells.Bank
	side(4, func(who int) {
		for i := range 100 {
			b.Store(2+i, 5)
			b.Add(-1-i, 5)
			b.CAS(2+i, 0, 5)
			none.Store(i, 5)
			none.Add(i, 5)
			new(cells.Bank).CAS(i, 0, 5)
		}
	})
	checkAll(t, "nothing", b, []int64{0, 0})
	checkNoBank(t, "nil", none)
}
