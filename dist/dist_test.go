package dist_test

import (
	"fmt"
	"math"
	"slices"
	"testing"

	"acequia/api"
	"acequia/csr"
	"acequia/dist"
)

// arc is short for the literals below.
func arc(from, to int, cap int64) api.Arc { return api.Arc{From: from, To: to, Cap: cap} }

// example is the network of the chapter's examples.
func example() api.Net {
	return api.Net{N: 4, S: 0, T: 3, Arcs: []api.Arc{arc(0, 1, 1), arc(1, 2, 1), arc(0, 2, 1)}}
}

// tangle has self-loops, parallel arcs, arcs against each other, one of no capacity, and a vertex (3) without arcs.
func tangle() api.Net {
	return api.Net{N: 5, S: 4, T: 1, Arcs: []api.Arc{
		arc(4, 0, 3), arc(2, 2, 8), arc(0, 4, 2), arc(4, 0, 1), arc(0, 1, 4), arc(1, 2, 0), arc(2, 1, 5), arc(0, 0, 1), arc(4, 2, 2),
	}}
}

// chain has as many vertices as there may be, one behind the other, so that it has the greatest distances.
func chain() api.Net {
	n := api.Net{N: 1 << 12, S: 0, T: 1<<12 - 1}
	for v := range n.N - 1 {
		n.Arcs = append(n.Arcs, arc(v, v+1, 1))
	}
	return n
}

// large has as many vertices and arcs as there may be, with ends and capacities of all kinds.
func large() api.Net {
	n := api.Net{N: 1 << 12, S: 1<<12 - 1, T: 7, Arcs: make([]api.Arc, 1<<14)}
	for i := range n.Arcs {
		n.Arcs[i] = arc(i*i%4093, i*37%4096, int64(i%5)<<40)
	}
	return n
}

// mustMake returns the residual network of a valid network.
func mustMake(t *testing.T, n api.Net) api.Csr {
	t.Helper()
	c, err := csr.Make(n)
	if err != api.OK {
		t.Fatalf("Make(%v) has the error %d", n, err)
	}
	return c
}

// mustRes returns the residual capacities for a flow.
func mustRes(t *testing.T, c api.Csr, f ...int64) []int64 {
	t.Helper()
	res, err := csr.Res(c, f)
	if err != api.OK {
		t.Fatalf("Res(%v, %v) has the error %d", c, f, err)
	}
	return res
}

// show writes residual arcs by their ends, and by the arcs that they are of.
func show(c api.Csr, way []int) string {
	text := ""
	for _, a := range way {
		tail, _ := csr.Tail(c, a)
		text += fmt.Sprintf("%d>%d by %d;", tail, c.Head[a], c.Arc[a])
	}
	return text
}

// brief is the beginning of what x looks like, as the largest networks would fill pages.
func brief(x any) string { return fmt.Sprintf("%.300s", fmt.Sprint(x)) }

// sameRows compares list by list.
func sameRows(a, b [][]int) bool { return slices.EqualFunc(a, b, slices.Equal) }

// distances is the chapter's definition, written anew without a search: the distances between all vertices, made less by one residual arc after the other.
func distances(c api.Csr, res []int64) [][]int {
	d := make([][]int, c.N)
	for u := range d {
		d[u] = slices.Repeat([]int{c.N}, c.N)
		d[u][u] = 0
	}
	for range c.N {
		for a, left := range res {
			if left <= 0 {
				continue
			}
			u, _ := csr.Tail(c, a)
			for v := range d {
				d[u][v] = min(d[u][v], 1+d[c.Head[a]][v])
			}
		}
	}
	return d
}

// column lists the distances of all vertices to t.
func column(d [][]int, t int) []int {
	var list []int
	for _, row := range d {
		list = append(list, row[t])
	}
	return list
}

// wantWay is the chapter's definition of a way, written anew: all residual arcs are asked, from the least number on.
func wantWay(c api.Csr, res []int64, d [][]int, s, t int) ([]int, bool) {
	if d[s][t] == c.N {
		return nil, false
	}
	var way []int
	for v := s; v != t; v = c.Head[way[len(way)-1]] {
		for a := range res {
			if tail, _ := csr.Tail(c, a); tail == v && res[a] > 0 && d[c.Head[a]][t] == d[v][t]-1 {
				way = append(way, a)
				break
			}
		}
	}
	return way, true
}

// wantRows is the chapter's definition of rows, written anew: for each distance all vertices are asked.
func wantRows(c api.Csr, d [][]int, t int) [][]int {
	var rows [][]int
	for far := range c.N {
		var row []int
		for v := range c.N {
			if d[v][t] == far {
				row = append(row, v)
			}
		}
		if len(row) > 0 {
			rows = append(rows, row)
		}
	}
	return rows
}

// checkByDefinition compares all calls, for all vertices, to the definitions, and returns the distances.
func checkByDefinition(t *testing.T, c api.Csr, res []int64) [][]int {
	t.Helper()
	d := distances(c, res)
	for v := range c.N {
		if got, want := dist.To(c, res, v), column(d, v); !slices.Equal(got, want) {
			t.Fatalf("To(%v, %v, %d) is %v, want %v", c, res, v, got, want)
		}
		if got := dist.From(c, res, v); !slices.Equal(got, d[v]) {
			t.Fatalf("From(%v, %v, %d) is %v, want %v", c, res, v, got, d[v])
		}
		if got, want := dist.Rows(c, res, v), wantRows(c, d, v); !sameRows(got, want) {
			t.Fatalf("Rows(%v, %v, %d) is %v, want %v", c, res, v, got, want)
		}
		for u := range c.N {
			got, ok := dist.Way(c, res, u, v)
			if want, wantOk := wantWay(c, res, d, u, v); !slices.Equal(got, want) || ok != wantOk {
				t.Fatalf("Way(%v, %v, %d, %d) is %v, %t, want %v, %t", c, res, u, v, got, ok, want, wantOk)
			}
		}
	}
	return d
}

// checkNothing checks that no call finds anything.
func checkNothing(t *testing.T, name string, c api.Csr, res []int64, s, v int) {
	t.Helper()
	if got := dist.To(c, res, v); len(got) > 0 {
		t.Errorf("%s: To is %s", name, brief(got))
	}
	if got := dist.From(c, res, v); len(got) > 0 {
		t.Errorf("%s: From is %s", name, brief(got))
	}
	if got := dist.Rows(c, res, v); len(got) > 0 {
		t.Errorf("%s: Rows is %s", name, brief(got))
	}
	if got, ok := dist.Way(c, res, s, v); len(got) > 0 || ok {
		t.Errorf("%s: Way is %s, %t", name, brief(got), ok)
	}
}

// P5.1, P5.3: the chapter's examples.
func TestExamples(t *testing.T) {
	c := mustMake(t, example())
	empty, sent := mustRes(t, c, 0, 0, 0), mustRes(t, c, 0, 0, 1)
	for _, x := range []struct {
		name      string
		got, want []int
	}{
		{"To of 2", dist.To(c, empty, 2), []int{1, 1, 0, 4}},
		{"From of 1", dist.From(c, empty, 1), []int{4, 0, 1, 4}},
		{"To of 2 with the flow 1 on the third arc", dist.To(c, sent, 2), []int{2, 1, 0, 4}},
		{"From of 2 with the flow 1 on the third arc", dist.From(c, sent, 2), []int{1, 2, 0, 4}},
	} {
		if !slices.Equal(x.got, x.want) {
			t.Errorf("%s is %v, want %v", x.name, x.got, x.want)
		}
	}
	if rows := dist.Rows(c, empty, 2); !sameRows(rows, [][]int{{2}, {0, 1}}) {
		t.Errorf("Rows of 2 is %v", rows)
	}
}

// P5.1: the distance of a vertex to itself is 0, that to a vertex to which there is no path is N; S and T are vertices like any other.
func TestDistances(t *testing.T) {
	c := mustMake(t, tangle())
	for _, x := range []struct {
		name     string
		f        []int64
		v        int
		to, from []int
	}{
		{"nothing sent, T", []int64{0, 0, 0, 0, 0, 0, 0, 0, 0}, 1, []int{1, 0, 1, 5, 2}, []int{5, 0, 5, 5, 5}},
		{"nothing sent, S", []int64{0, 0, 0, 0, 0, 0, 0, 0, 0}, 4, []int{1, 5, 5, 5, 0}, []int{1, 2, 1, 5, 0}},
		{"a vertex without arcs", []int64{0, 0, 0, 0, 0, 0, 0, 0, 0}, 3, []int{5, 5, 5, 0, 5}, []int{5, 5, 5, 0, 5}},
		{"a way back from T", []int64{0, 0, 0, 0, 1, 0, 0, 0, 0}, 1, []int{1, 0, 1, 5, 2}, []int{1, 0, 3, 5, 2}},
		{"one of two parallel arcs is full", []int64{3, 0, 0, 0, 0, 0, 0, 0, 0}, 0, []int{0, 5, 5, 5, 1}, []int{0, 1, 2, 5, 1}},
		{"both are full", []int64{3, 0, 2, 1, 0, 0, 0, 0, 0}, 0, []int{0, 5, 5, 5, 1}, []int{0, 1, 2, 5, 1}},
		{"both are full, and nothing the other way", []int64{3, 0, 0, 1, 0, 0, 0, 0, 0}, 0, []int{0, 5, 5, 5, 5}, []int{0, 1, 2, 5, 1}},
		{"self-loops count for nothing", []int64{3, 8, 0, 1, 4, 0, 5, 1, 2}, 4, []int{1, 2, 1, 5, 0}, []int{5, 5, 5, 5, 0}},
	} {
		res := mustRes(t, c, x.f...)
		if got := dist.To(c, res, x.v); !slices.Equal(got, x.to) {
			t.Errorf("%s: To is %v, want %v", x.name, got, x.to)
		}
		if got := dist.From(c, res, x.v); !slices.Equal(got, x.from) {
			t.Errorf("%s: From is %v, want %v", x.name, got, x.from)
		}
	}
}

// P5.1 to P5.3: residual capacities are any numbers; those above 0 are open, and the capacities do not matter.
func TestAnyResidualCapacities(t *testing.T) {
	c := mustMake(t, example())
	// The residual arcs of 0 go to 1 and 2, those of 1 to 0 and 2, those of 2 to 1 and 0.
	for _, x := range []struct {
		res  []int64
		want []int
	}{
		{[]int64{0, 0, 0, 0, 0, 0}, []int{4, 4, 0, 4}},
		{[]int64{-1, -1, -1, -1, -1, -1}, []int{4, 4, 0, 4}},
		{slices.Repeat([]int64{math.MinInt64}, 6), []int{4, 4, 0, 4}},
		{slices.Repeat([]int64{math.MaxInt64}, 6), []int{1, 1, 0, 4}},
		{[]int64{1, -5, 0, 1, 0, 0}, []int{2, 1, 0, 4}},
		{[]int64{0, 9, 9, 0, 9, 9}, []int{1, 2, 0, 4}},
		{[]int64{9, 0, 9, 0, 9, 9}, []int{4, 4, 0, 4}},
		{[]int64{0, 1 << 62, 0, math.MinInt64, -1, math.MaxInt64}, []int{1, 4, 0, 4}},
	} {
		if got := dist.To(c, x.res, 2); !slices.Equal(got, x.want) {
			t.Errorf("To(%v, 2) is %v, want %v", x.res, got, x.want)
		}
		checkByDefinition(t, c, x.res)
	}
}

// P5.1 to P5.3: what is not a vertex, below 0, N, or above.
func TestNotVertices(t *testing.T) {
	for _, n := range []api.Net{example(), tangle(), {N: 2, S: 0, T: 1}} {
		c := mustMake(t, n)
		res := slices.Repeat([]int64{1}, csr.Len(c))
		for _, v := range []int{-1, -2, math.MinInt, n.N, n.N + 1, 1 << 12, 1<<12 + 1, math.MaxInt} {
			name := fmt.Sprintf("N is %d, the vertex %d", n.N, v)
			checkNothing(t, name, c, res, 0, v)
			checkNothing(t, name, c, res, v, v)
			if got, ok := dist.Way(c, res, v, 0); len(got) > 0 || ok {
				t.Errorf("%s: Way from there is %v, %t", name, got, ok)
			}
		}
	}
}

// P5.1 to P5.3: residual capacities that are too few, too many, or none at all.
func TestWrongResidualCapacities(t *testing.T) {
	for _, n := range []api.Net{example(), tangle(), chain(), {N: 2, S: 0, T: 1}, {N: 2, S: 1, T: 0, Arcs: []api.Arc{arc(1, 1, 3)}}} {
		c := mustMake(t, n)
		for _, count := range []int{0, 1, len(n.Arcs), csr.Len(c) - 1, csr.Len(c) + 1, 2*csr.Len(c) + 2} {
			if count < 0 || count == csr.Len(c) {
				continue
			}
			name := fmt.Sprintf("N is %d, %d residual capacities", n.N, count)
			res := slices.Repeat([]int64{1}, count)
			checkNothing(t, name, c, res, 0, 1)
			checkNothing(t, name, c, res, 1, 1)
			checkNothing(t, name, c, res, 1, n.N)
		}
		if csr.Len(c) > 0 {
			checkNothing(t, "no residual capacities", c, nil, 0, 0)
		}
	}
}

// P5.1 to P5.3: networks without residual arcs: each vertex is alone.
func TestWithoutResidualArcs(t *testing.T) {
	for _, n := range []api.Net{{N: 2, S: 0, T: 1}, {N: 3, S: 2, T: 0, Arcs: []api.Arc{arc(1, 1, 4)}}} {
		c := mustMake(t, n)
		checkByDefinition(t, c, nil)
		checkByDefinition(t, c, []int64{})
	}
}

// P5.1 to P5.3: the greatest distances there are, and as many vertices and arcs as there may be.
func TestLargest(t *testing.T) {
	n := chain()
	c := mustMake(t, n)
	res := mustRes(t, c, make([]int64, len(n.Arcs))...)
	to, from, rows := dist.To(c, res, n.T), dist.From(c, res, n.S), dist.Rows(c, res, n.T)
	if len(to) != n.N || len(from) != n.N || len(rows) != n.N {
		t.Fatalf("there are %d, %d and %d of %d", len(to), len(from), len(rows), n.N)
	}
	for v := range n.N {
		if to[v] != n.T-v || from[v] != v || !slices.Equal(rows[v], []int{n.T - v}) {
			t.Fatalf("vertex %d: To is %d, From is %d, row %d is %v", v, to[v], from[v], v, rows[v])
		}
	}
	way, ok := dist.Way(c, res, n.S, n.T)
	if want := csr.Forward(c, len(n.Arcs)); !slices.Equal(way, want) || !ok {
		t.Errorf("Way is %s, %t", brief(way), ok)
	}
	if way, ok := dist.Way(c, res, n.T, n.S); len(way) > 0 || ok {
		t.Errorf("the way back is %s, %t", brief(way), ok)
	}
	checkLarge(t)
}

// checkLarge checks the conditions that make a list the distances, as the definition would take too long.
func checkLarge(t *testing.T) {
	t.Helper()
	n := large()
	c := mustMake(t, n)
	res := mustRes(t, c, make([]int64, len(n.Arcs))...)
	to := dist.To(c, res, n.T)
	checkSteps(t, c, res, to, n.T)
	found := 0
	for far, row := range dist.Rows(c, res, n.T) {
		found += len(row)
		if len(row) == 0 || !slices.IsSorted(row) {
			t.Fatalf("row %d is %s", far, brief(row))
		}
		for _, v := range row {
			if to[v] != far {
				t.Fatalf("vertex %d, with the distance %d, is in row %d", v, to[v], far)
			}
			if way, ok := dist.Way(c, res, v, n.T); len(way) != far || !ok {
				t.Fatalf("Way from %d, with the distance %d, is %s, %t", v, far, show(c, way), ok)
			}
		}
	}
	for _, far := range to {
		if far == n.N {
			found++
		}
	}
	if found != n.N {
		t.Errorf("%d vertices of %d are in the rows, or far", found, n.N)
	}
}

// P5.1: distances in cycles, which a search must not go round.
func TestCycles(t *testing.T) {
	n := api.Net{N: 6, S: 0, T: 5, Arcs: []api.Arc{arc(0, 1, 1), arc(1, 2, 1), arc(2, 0, 1), arc(2, 3, 1), arc(3, 4, 1), arc(4, 3, 1)}}
	c := mustMake(t, n)
	for _, f := range [][]int64{{0, 0, 0, 0, 0, 0}, {1, 1, 1, 0, 0, 0}, {0, 0, 0, 1, 1, 1}} {
		checkByDefinition(t, c, mustRes(t, c, f...))
	}
	res := mustRes(t, c, 0, 0, 0, 0, 0, 0)
	if got := dist.To(c, res, 0); !slices.Equal(got, []int{0, 2, 1, 6, 6, 6}) {
		t.Errorf("To of 0 is %v", got)
	}
	if got := dist.From(c, res, 1); !slices.Equal(got, []int{2, 0, 1, 2, 3, 6}) {
		t.Errorf("From of 1 is %v", got)
	}
}
