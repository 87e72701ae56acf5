package cells_test

import (
	"math"
	"testing"

	"acequia/api"
	"acequia/cells"
)

// mustPlan is the layout for so many vertices, residual arcs and workers.
func mustPlan(t *testing.T, verts, arcs, workers int) api.Layout {
	t.Helper()
	l, err := cells.Plan(verts, arcs, workers)
	if err != api.OK {
		t.Fatalf("Plan(%d, %d, %d) has the error %d", verts, arcs, workers, err)
	}
	return l
}

// wantRoom is the least power of two that is at least n and at least 1, found among all of them.
func wantRoom(n int) int {
	for _, r := range []int{1, 2, 4, 8, 16, 32, 64, 128, 256, 512, 1024, 2048, 4096} {
		if r >= n {
			return r
		}
	}
	return -1
}

// wantPlan is the chapter's definition of a layout, each place written out by itself.
func wantPlan(v, a, w int) api.Layout {
	r := wantRoom(v)
	return api.Layout{
		Verts: v, Arcs: a, Workers: w, Room: r,
		Res: 0, Ex: a, H: a + v, Flag: a + 2*v,
		Pending: a + 3*v, Ask: a + 3*v + 1, Count: a + 3*v + 2, Sense: a + 3*v + 3,
		Deques: a + 3*v + 4, Size: a + 3*v + 4 + w*(2+r),
	}
}

// ats are numbers of slots: the first ones, those around the Room, and great ones.
func ats(room int) []int64 {
	r := int64(room)
	return []int64{0, 1, 2, r - 1, r, r + 1, 2*r - 1, 2 * r, 7*r + 5, 1 << 32, 1<<40 + 3, 1 << 62, math.MaxInt64 - 1, math.MaxInt64}
}

// checkDeques compares the cells of the deques of a layout to where they should be.
func checkDeques(t *testing.T, l api.Layout) {
	t.Helper()
	for w := range l.Workers {
		first := l.Size - (l.Workers-w)*(l.Room+2)
		if top, bottom := cells.Top(l, w), cells.Bottom(l, w); top != first || bottom != first+1 {
			t.Fatalf("%+v: the top of %d is %d, its bottom %d, want %d and %d", l, w, top, bottom, first, first+1)
		}
		for _, at := range ats(l.Room) {
			// As Room is a power of two, the rest is in the lowest bits.
			want := first + 2 + int(uint64(at)&uint64(l.Room-1))
			if got := cells.Slot(l, w, at); got != want {
				t.Fatalf("%+v: Slot(%d, %d) is %d, want %d", l, w, at, got, want)
			}
		}
	}
}

// checkPlan compares a layout to what it should be, and the cells of its deques.
func checkPlan(t *testing.T, verts, arcs, workers int) {
	t.Helper()
	l := mustPlan(t, verts, arcs, workers)
	if want := wantPlan(verts, arcs, workers); l != want {
		t.Fatalf("Plan(%d, %d, %d) is %+v, want %+v", verts, arcs, workers, l, want)
	}
	checkDeques(t, l)
}

// edges are numbers of vertices: none, one, powers of two, one less and one more of them, up to the most.
func edges() []int {
	list := []int{0, 1, 2, 3}
	for r := 4; r <= 4096; r *= 2 {
		list = append(list, r-1, r)
		if r < 4096 {
			list = append(list, r+1)
		}
	}
	return list
}

// P10.1: the example of the chapter.
func TestPlanExample(t *testing.T) {
	l := mustPlan(t, 3, 4, 2)
	want := api.Layout{
		Verts: 3, Arcs: 4, Workers: 2, Room: 4, Res: 0, Ex: 4, H: 7, Flag: 10,
		Pending: 13, Ask: 14, Count: 15, Sense: 16, Deques: 17, Size: 29,
	}
	if l != want {
		t.Errorf("Plan(3, 4, 2) is %+v, want %+v", l, want)
	}
	if top, bottom, slot := cells.Top(l, 1), cells.Bottom(l, 1), cells.Slot(l, 1, 6); top != 23 || bottom != 24 || slot != 27 {
		t.Errorf("Top(1) is %d, Bottom(1) is %d, Slot(1, 6) is %d, want 23, 24 and 27", top, bottom, slot)
	}
}

// P10.1: layouts of all sizes, their edges among them, and the cells of their deques.
func TestPlan(t *testing.T) {
	for _, verts := range edges() {
		for _, arcs := range []int{0, 1, 2, 7, 32767, 32768} {
			for _, workers := range []int{1, 2, 3, 63, 64} {
				checkPlan(t, verts, arcs, workers)
			}
		}
	}
}

// P10.1: the Room is the right one for each number of vertices.
func TestPlanOfAllNumbersOfVertices(t *testing.T) {
	for verts := range 4097 {
		checkPlan(t, verts, verts%5, 1+verts%3)
	}
}

// P10.1: a number that is too small or too great is ErrArg, without a layout, whatever the others are.
func TestPlanErrors(t *testing.T) {
	type bounds struct{ good, bad []int }
	verts := bounds{[]int{0, 1, 4096}, []int{math.MinInt, -4096, -1, 4097, 8192, 32768, math.MaxInt}}
	arcs := bounds{[]int{0, 1, 32768}, []int{math.MinInt, -32768, -1, 32769, 65536, math.MaxInt}}
	workers := bounds{[]int{1, 2, 64}, []int{math.MinInt, -64, -1, 0, 65, 128, 4096, math.MaxInt}}
	for i := range 8 {
		pick := func(bit int, b bounds) []int {
			if i&bit != 0 {
				return b.bad
			}
			return b.good
		}
		want := api.OK
		if i != 0 {
			want = api.ErrArg
		}
		for _, v := range pick(1, verts) {
			for _, a := range pick(2, arcs) {
				for _, w := range pick(4, workers) {
					l, err := cells.Plan(v, a, w)
					if err != want || err != api.OK && l != (api.Layout{}) {
						t.Errorf("Plan(%d, %d, %d) is %+v, %d, want the error %d", v, a, w, l, err, want)
					}
				}
			}
		}
	}
}

// P10.1, R4: the same calls return the same, whichever were made in between.
func TestPlansDoNotMatterToEachOther(t *testing.T) {
	first := mustPlan(t, 5, 6, 2)
	mustPlan(t, 4096, 32768, 64)
	cells.Plan(-1, 0, 0)
	if again := mustPlan(t, 5, 6, 2); again != first {
		t.Errorf("Plan(5, 6, 2) is %+v, was %+v", again, first)
	}
}

// part is what a cell is for.
type part struct {
	name string
	w, k int
}

// taker gives each cell of a layout to the part that it is for, and finds such as have two, or none.
type taker struct {
	t     *testing.T
	l     api.Layout
	parts []part
}

func (x *taker) take(cell int, p part) {
	x.t.Helper()
	if cell < 0 || cell >= x.l.Size {
		x.t.Fatalf("%+v: the cell %d of %v is not below the Size", x.l, cell, p)
	}
	if x.parts[cell].name != "" {
		x.t.Fatalf("%+v: the cell %d is that of %v and of %v", x.l, cell, x.parts[cell], p)
	}
	x.parts[cell] = p
}

func (x *taker) takeRow(name string, first, count int) {
	x.t.Helper()
	for k := range count {
		x.take(first+k, part{name: name, k: k})
	}
}

// takeAll gives all cells of l to their parts, and returns these.
func takeAll(t *testing.T, l api.Layout) []part {
	t.Helper()
	x := &taker{t: t, l: l, parts: make([]part, l.Size)}
	x.takeRow("res", l.Res, l.Arcs)
	x.takeRow("ex", l.Ex, l.Verts)
	x.takeRow("h", l.H, l.Verts)
	x.takeRow("flag", l.Flag, l.Verts)
	x.takeRow("pending", l.Pending, 1)
	x.takeRow("ask", l.Ask, 1)
	x.takeRow("count", l.Count, 1)
	x.takeRow("sense", l.Sense, 1)
	for w := range l.Workers {
		x.take(cells.Top(l, w), part{name: "top", w: w})
		x.take(cells.Bottom(l, w), part{name: "bottom", w: w})
		for k := range l.Room {
			x.take(cells.Slot(l, w, int64(k)), part{name: "slot", w: w, k: k})
		}
	}
	for cell, p := range x.parts {
		if p.name == "" {
			t.Fatalf("%+v: the cell %d is for nothing", l, cell)
		}
	}
	return x.parts
}

// P10.4: no two parts of a layout share a cell, all cells are below Size, and each is some part's; a bank of that size can be made.
func TestPartsShareNoCell(t *testing.T) {
	check := func(verts, arcs, workers int) {
		l := mustPlan(t, verts, arcs, workers)
		takeAll(t, l)
		b, err := cells.New(l.Size)
		if err != api.OK || b.Len() != l.Size {
			t.Errorf("%+v: New(%d) has the error %d", l, l.Size, err)
		}
	}
	for verts := range 20 {
		for _, arcs := range []int{0, 1, 9} {
			for workers := 1; workers <= 5; workers++ {
				check(verts, arcs, workers)
			}
		}
	}
	for _, verts := range edges() {
		check(verts, 3*verts, 3)
	}
	check(0, 0, 64)
	check(0, 32768, 1)
	check(4096, 0, 1)
	check(4096, 32768, 64)
}

// P10.4: the slots of a worker are gone through round by round, with no other cell among them.
func TestSlotsGoRound(t *testing.T) {
	for _, verts := range []int{0, 1, 2, 3, 5, 8, 9} {
		l := mustPlan(t, verts, 2, 3)
		parts := takeAll(t, l)
		for w := range l.Workers {
			for at := range 3 * l.Room {
				want := part{name: "slot", w: w, k: at % l.Room}
				if got := parts[cells.Slot(l, w, int64(at))]; got != want {
					t.Errorf("%+v: Slot(%d, %d) is that of %v, want %v", l, w, at, got, want)
				}
			}
		}
	}
}

// oddLayouts are layouts that Plan did not return.
func oddLayouts(t *testing.T) []api.Layout {
	good := mustPlan(t, 3, 4, 2)
	list := []api.Layout{{}, {Workers: 64}, {Workers: math.MaxInt, Room: math.MaxInt, Deques: math.MaxInt}, {Workers: math.MinInt, Room: math.MinInt, Deques: math.MinInt}}
	for _, x := range []int{math.MinInt, -2, -1, 0, 1, 3, 1 << 62, math.MaxInt} {
		room, workers, deques := good, good, good
		room.Room, workers.Workers, deques.Deques = x, x, x
		list = append(list, room, workers, deques)
	}
	return list
}

// R1: Top, Bottom and Slot return for any layouts, workers and numbers.
func TestAnyLayouts(t *testing.T) {
	for _, l := range append(oddLayouts(t), mustPlan(t, 3, 4, 2), mustPlan(t, 0, 0, 1)) {
		for _, w := range []int{math.MinInt, -1, 0, 1, 2, 63, 64, math.MaxInt} {
			cells.Top(l, w)
			cells.Bottom(l, w)
			for _, at := range []int64{math.MinInt64, -5, -1, 0, 1, 6, math.MaxInt64} {
				cells.Slot(l, w, at)
			}
		}
	}
}

// R7: what the layout has no worker for, and slots below 0, have no cell, which is told by a 0.
func TestNoSuchWorker(t *testing.T) {
	l := mustPlan(t, 3, 4, 2)
	for _, w := range []int{math.MinInt, -1, 2, 3, 64, math.MaxInt} {
		if top, bottom, slot := cells.Top(l, w), cells.Bottom(l, w), cells.Slot(l, w, 1); top != 0 || bottom != 0 || slot != 0 {
			t.Errorf("the worker %d has the cells %d, %d and %d", w, top, bottom, slot)
		}
	}
	for _, at := range []int64{-1, -4, math.MinInt64} {
		if slot := cells.Slot(l, 1, at); slot != 0 {
			t.Errorf("Slot(1, %d) is %d", at, slot)
		}
	}
}
