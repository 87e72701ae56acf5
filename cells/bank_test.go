package cells_test

import (
	"math"
	"slices"
	"testing"

	"acequia/api"
	"acequia/cells"
)

// mustNew is a bank of n cells.
func mustNew(t *testing.T, n int) *cells.Bank {
	t.Helper()
	b, err := cells.New(n)
	if err != api.OK || b == nil {
		t.Fatalf("New(%d) is %p and has the error %d", n, b, err)
	}
	return b
}

// filled is a bank with these numbers.
func filled(t *testing.T, numbers ...int64) *cells.Bank {
	t.Helper()
	b := mustNew(t, len(numbers))
	for i, v := range numbers {
		b.Store(i, v)
	}
	return b
}

// checkAll compares all that is in a bank to what should be there, by Len, All and Load.
func checkAll(t *testing.T, name string, b *cells.Bank, want []int64) {
	t.Helper()
	if b.Len() != len(want) {
		t.Fatalf("%s: Len is %d, want %d", name, b.Len(), len(want))
	}
	if all := b.All(); !slices.Equal(all, want) {
		t.Fatalf("%s: All is %v, want %v", name, all, want)
	}
	for i, v := range want {
		if got := b.Load(i); got != v {
			t.Fatalf("%s: Load(%d) is %d, want %d", name, i, got, v)
		}
	}
}

// P10.2: banks of no cells, of some, and of the most, with 0 in each.
func TestNew(t *testing.T) {
	for _, n := range []int{0, 1, 2, 3, 29, 1000, 1<<19 - 1, 1 << 19} {
		checkAll(t, "new", mustNew(t, n), make([]int64, n))
	}
}

// P10.2: numbers of cells below 0 and above MaxCells are ErrArg, and there is no bank.
func TestNewErrors(t *testing.T) {
	for _, n := range []int{math.MinInt, -1 << 19, -2, -1, 1<<19 + 1, 1 << 20, 1 << 40, math.MaxInt} {
		if b, err := cells.New(n); b != nil || err != api.ErrArg {
			t.Errorf("New(%d) is %p and has the error %d, want none and %d", n, b, err, api.ErrArg)
		}
	}
}

// P10.2: All returns the numbers in order, in a great bank as well.
func TestAll(t *testing.T) {
	want := make([]int64, 1<<19)
	b := mustNew(t, len(want))
	for i := range want {
		want[i] = int64(i)*0x1234567 - 1<<40
		b.Store(i, want[i])
	}
	checkAll(t, "a great bank", b, want)
}

// P10.3: the example of the chapter.
func TestExample(t *testing.T) {
	b := filled(t, 5)
	if got := b.Add(0, -7); got != -2 {
		t.Errorf("Add(0, -7) is %d, want -2", got)
	}
	if !b.CAS(0, -2, 9) {
		t.Error("CAS(0, -2, 9) is false")
	}
	if b.CAS(0, -2, 1) {
		t.Error("CAS(0, -2, 1) is true")
	}
	checkAll(t, "the example", b, []int64{9})
}

// numbers are some of all kinds.
func numbers() []int64 {
	return []int64{0, 1, -1, 2, -2, 5, 255, 256, 1<<31 - 1, 1 << 31, -1 << 31, 1<<32 - 1, 1 << 32, 1<<53 + 1, 1 << 62, -1 << 62, math.MaxInt64 - 1, math.MaxInt64, math.MinInt64, math.MinInt64 + 1}
}

// P10.3: numbers of all kinds are stored and loaded, and stored again.
func TestLoadAndStore(t *testing.T) {
	for _, v := range numbers() {
		for _, w := range numbers() {
			b := filled(t, 7, v, -7)
			checkAll(t, "stored", b, []int64{7, v, -7})
			b.Store(1, w)
			checkAll(t, "stored again", b, []int64{7, w, -7})
		}
	}
}

// P10.3: additions of numbers of all kinds, with wrap around in both directions.
func TestAdd(t *testing.T) {
	for _, x := range []struct{ v, d, want int64 }{
		{0, 0, 0}, {5, -7, -2}, {-7, 5, -2}, {3, 4, 7},
		{math.MaxInt64, 1, math.MinInt64},
		{math.MinInt64, -1, math.MaxInt64},
		{1 << 62, 1 << 62, math.MinInt64},
		{math.MinInt64, math.MinInt64, 0},
		{math.MaxInt64, math.MaxInt64, -2},
		{math.MaxInt64, math.MinInt64, -1},
		{-1, math.MinInt64, math.MaxInt64},
	} {
		b := filled(t, 7, x.v, -7)
		if got := b.Add(1, x.d); got != x.want {
			t.Errorf("%d and %d are %d, want %d", x.v, x.d, got, x.want)
		}
		checkAll(t, "added", b, []int64{7, x.want, -7})
	}
	for _, v := range numbers() {
		for _, d := range numbers() {
			want := int64(uint64(v) + uint64(d))
			b := filled(t, v)
			if got := b.Add(0, d); got != want || b.Load(0) != want {
				t.Errorf("%d and %d are %d, then %d, want %d", v, d, got, b.Load(0), want)
			}
		}
	}
}

// P10.3: a CAS whose old is the cell's number sets it, any other one changes nothing.
func TestCAS(t *testing.T) {
	for _, v := range numbers() {
		for _, old := range numbers() {
			for _, to := range []int64{0, 1, -1, v, old, math.MaxInt64, math.MinInt64} {
				b := filled(t, old, v, to)
				want := v
				if v == old {
					want = to
				}
				if got := b.CAS(1, old, to); got != (v == old) {
					t.Errorf("CAS from %d to %d of a cell with %d is %t", old, to, v, got)
				}
				checkAll(t, "CAS", b, []int64{old, want, to})
			}
		}
	}
}

// access makes one access to a bank, and the same one to the numbers that should be in it, and compares what both answer.
func access(t *testing.T, b *cells.Bank, model []int64, kind, i int, x, y int64) {
	t.Helper()
	switch kind {
	case 0:
		if got := b.Load(i); got != model[i] {
			t.Fatalf("Load(%d) is %d, want %d", i, got, model[i])
		}
	case 1:
		b.Store(i, x)
		model[i] = x
	case 2:
		model[i] += x
		if got := b.Add(i, x); got != model[i] {
			t.Fatalf("Add(%d, %d) is %d, want %d", i, x, got, model[i])
		}
	case 3:
		was := model[i] == x
		if was {
			model[i] = y
		}
		if got := b.CAS(i, x, y); got != was {
			t.Fatalf("CAS(%d, %d, %d) is %t, want %t", i, x, y, got, was)
		}
	}
}

// next is the next one of a row of numbers that look like chance.
func next(seed *uint64) int {
	*seed = *seed*6364136223846793005 + 1442695040888963407
	return int(*seed >> 33)
}

// P10.3, P10.4: long rows of accesses answer as those to a list of numbers do, and an access to one cell changes no other one.
func TestManyAccesses(t *testing.T) {
	seed := uint64(3)
	kinds := [4]int{}
	for _, n := range []int{1, 2, 3, 17, 64} {
		b, model := mustNew(t, n), make([]int64, n)
		for range 3000 {
			kind, i := next(&seed)%4, next(&seed)%n
			x, y := int64(next(&seed)%5-2), int64(next(&seed)%5-2)
			if next(&seed)%8 == 0 {
				x = numbers()[next(&seed)%len(numbers())]
			}
			access(t, b, model, kind, i, x, y)
			checkAll(t, "many accesses", b, model)
			kinds[kind]++
		}
	}
	if slices.Min(kinds[:]) < 1000 {
		t.Errorf("too few accesses of a kind: %v", kinds)
	}
}

// P10.4: an access to any cell of a bank changes no other one, the first one and the last one among them.
func TestOtherCellsStay(t *testing.T) {
	const n = 33
	b, model := mustNew(t, n), make([]int64, n)
	for i := range n {
		b.Store(i, int64(-i))
		model[i] = int64(-i)
	}
	for i := range n {
		for kind := range 4 {
			access(t, b, model, kind, i, int64(i+kind), 100)
			checkAll(t, "the others", b, model)
		}
		access(t, b, model, 3, i, model[i], 1000)
		checkAll(t, "the others of a CAS", b, model)
	}
}

// checkNone checks that an access to the cell i of b, which is none, does nothing and returns zero values.
func checkNone(t *testing.T, name string, b *cells.Bank, i int) {
	t.Helper()
	b.Store(i, 3)
	if got := b.Load(i); got != 0 {
		t.Errorf("%s: Load(%d) is %d", name, i, got)
	}
	for _, d := range []int64{0, 1, -1, math.MaxInt64} {
		if got := b.Add(i, d); got != 0 {
			t.Errorf("%s: Add(%d, %d) is %d", name, i, d, got)
		}
	}
	for _, old := range []int64{0, 1, 3} {
		if b.CAS(i, old, 5) {
			t.Errorf("%s: CAS(%d, %d, 5) is true", name, i, old)
		}
	}
}

// P10.3: cells that are none: below 0, at Len, and above.
func TestNoSuchCell(t *testing.T) {
	for _, list := range [][]int64{{}, {5}, {5, 0, -6}, make([]int64, 100)} {
		b := filled(t, list...)
		n := len(list)
		for _, i := range []int{math.MinInt, math.MinInt + 1, -1 << 32, -n - 1, -2, -1, n, n + 1, 2*n + 1, 1 << 19, 1 << 32, math.MaxInt} {
			checkNone(t, "a bank", b, i)
			checkAll(t, "a bank", b, list)
		}
	}
}

// P10.3: cells above those of the greatest bank are none, either.
func TestNoSuchCellOfTheGreatest(t *testing.T) {
	b := mustNew(t, 1<<19)
	b.Store(1<<19-1, 8)
	for _, i := range []int{-1, 1 << 19, 1<<19 + 1, math.MaxInt} {
		checkNone(t, "the greatest", b, i)
	}
	if all := b.All(); all[1<<19-1] != 8 || slices.Max(all[:1<<19-1]) != 0 || slices.Min(all) != 0 {
		t.Error("the greatest bank has changed")
	}
}

// checkNoBank checks that all methods of what is no bank return zero values.
func checkNoBank(t *testing.T, name string, b *cells.Bank) {
	t.Helper()
	for range 2 {
		for _, i := range []int{math.MinInt, -1, 0, 1, 2, 1 << 19, math.MaxInt} {
			checkNone(t, name, b, i)
		}
		if b.Len() != 0 || len(b.All()) != 0 {
			t.Errorf("%s: Len is %d, All is %v", name, b.Len(), b.All())
		}
	}
}

// P10.3, R5: a bank that is nil, and such as New did not return, for each method.
func TestNoBank(t *testing.T) {
	checkNoBank(t, "nil", nil)
	checkNoBank(t, "new", new(cells.Bank))
	var own cells.Bank
	checkNoBank(t, "a variable", &own)
	none, _ := cells.New(-1)
	checkNoBank(t, "beside an error", none)
}

// P10.3, R5: a copy of a bank is none that New returned, and the bank itself stays as it is.
func TestCopyIsNoBank(t *testing.T) {
	b := filled(t, 5, 3, 1)
	twin := *b
	checkNoBank(t, "a copy", &twin)
	checkAll(t, "the bank", b, []int64{5, 3, 1})
	other := filled(t, 7)
	kept := *other
	*other = *b
	checkNoBank(t, "a bank written over by another one", other)
	*other = kept
	checkAll(t, "a bank put back", other, []int64{7})
	checkAll(t, "the bank", b, []int64{5, 3, 1})
}

// R3: what All returns shares no memory with the bank, nor with what it returns again.
func TestAllIsNew(t *testing.T) {
	want := []int64{5, -6, 7}
	b := filled(t, want...)
	first := b.All()
	second := b.All()
	full := first[:cap(first)]
	for i := range full {
		full[i] = 99
	}
	checkAll(t, "written over", b, want)
	if !slices.Equal(second, want) {
		t.Errorf("two results share memory: %v", second)
	}
	b.Store(0, 1)
	b.Add(1, 1)
	b.CAS(2, 7, 1)
	if !slices.Equal(second, want) || !slices.Equal(first, []int64{99, 99, 99}) {
		t.Errorf("a result has changed with the bank: %v, %v", first, second)
	}
}

// R4: banks are apart from each other, those of the same size too.
func TestBanksAreApart(t *testing.T) {
	a, b := filled(t, 1, 2), filled(t, 1, 2)
	a.Store(0, 9)
	a.Add(1, 9)
	checkAll(t, "the first", a, []int64{9, 11})
	checkAll(t, "the second", b, []int64{1, 2})
	checkAll(t, "a new one", mustNew(t, 2), []int64{0, 0})
}

// R1: every call returns, with any arguments.
func TestAnyArguments(t *testing.T) {
	odd := []int{math.MinInt, -1, 0, 1, 2, 3, 64, 65, 4096, 4097, 32769, math.MaxInt}
	for _, x := range odd {
		for _, y := range odd {
			for _, z := range odd {
				cells.Plan(x, y, z)
			}
		}
		if b, _ := cells.New(x); x != 0 && b.Len() != 0 && b.Len() != x {
			t.Errorf("New(%d) has %d cells", x, b.Len())
		}
	}
	for _, b := range []*cells.Bank{nil, {}, mustNew(t, 0), mustNew(t, 3)} {
		for _, i := range odd {
			for _, v := range numbers() {
				b.Load(i)
				b.Store(i, v)
				b.Add(i, v)
				b.CAS(i, v, -v)
			}
			b.Len()
			b.All()
		}
	}
}
