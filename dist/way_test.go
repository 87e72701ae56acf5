package dist_test

import (
	"slices"
	"testing"

	"acequia/api"
	"acequia/csr"
	"acequia/dist"
)

// P5.2: at each vertex the open residual arc with the least number counts that leads nearer; a way is as long as the distance.
func TestWay(t *testing.T) {
	ladder := api.Net{N: 6, S: 0, T: 5, Arcs: []api.Arc{
		arc(0, 2, 1), arc(0, 1, 1), arc(2, 4, 1), arc(2, 3, 1), arc(1, 3, 1), arc(4, 5, 1), arc(3, 5, 1), arc(0, 0, 1), arc(3, 5, 1),
	}}
	parallel := api.Net{N: 3, S: 0, T: 2, Arcs: []api.Arc{arc(1, 0, 1), arc(0, 0, 1), arc(0, 1, 2), arc(0, 1, 2), arc(1, 2, 3), arc(2, 1, 3), arc(1, 2, 3)}}
	// What is sent from 0 to 3 by 1 and 2 blocks the way from 4 by 2, but for the way back to 1.
	back := api.Net{N: 6, S: 0, T: 5, Arcs: []api.Arc{arc(0, 1, 1), arc(1, 2, 1), arc(2, 3, 1), arc(4, 2, 1), arc(1, 5, 1), arc(3, 5, 1)}}
	for _, x := range []struct {
		name string
		n    api.Net
		f    []int64
		s, t int
		want string
		ok   bool
	}{
		{"the first of several", ladder, []int64{0, 0, 0, 0, 0, 0, 0, 0, 0}, 0, 5, "0>2 by 0;2>4 by 2;4>5 by 5;", true},
		{"the first is full", ladder, []int64{1, 0, 0, 0, 0, 0, 0, 0, 0}, 0, 5, "0>1 by 1;1>3 by 4;3>5 by 6;", true},
		{"the first leads nowhere", ladder, []int64{0, 0, 0, 0, 0, 1, 0, 0, 0}, 0, 5, "0>2 by 0;2>3 by 3;3>5 by 6;", true},
		{"the first of two parallel arcs is full", ladder, []int64{0, 0, 1, 0, 0, 0, 1, 0, 0}, 0, 5, "0>2 by 0;2>3 by 3;3>5 by 8;", true},
		{"there is none", ladder, []int64{0, 0, 0, 0, 0, 1, 1, 0, 1}, 0, 5, "", false},
		{"against the arcs", ladder, []int64{0, 0, 0, 0, 0, 0, 0, 0, 0}, 5, 0, "", false},
		{"from a vertex to itself", ladder, []int64{0, 0, 0, 0, 0, 0, 0, 0, 0}, 0, 0, "", true},
		{"from a vertex to itself, without open arcs", ladder, []int64{0, 0, 0, 0, 0, 0, 0, 0, 0}, 5, 5, "", true},
		{"parallel arcs", parallel, []int64{0, 0, 0, 0, 0, 0, 0}, 0, 2, "0>1 by 2;1>2 by 4;", true},
		{"back along an arc, whose number is less", parallel, []int64{1, 0, 0, 0, 0, 0, 0}, 0, 2, "0>1 by 0;1>2 by 4;", true},
		{"the other way round, by an arc and by what is sent", parallel, []int64{0, 0, 1, 0, 0, 0, 1}, 2, 0, "2>1 by 5;1>0 by 0;", true},
		{"by what is sent alone", parallel, []int64{1, 0, 0, 1, 0, 3, 1}, 2, 0, "2>1 by 6;1>0 by 3;", true},
		{"over a backward residual arc", back, []int64{1, 1, 1, 0, 0, 1}, 4, 5, "4>2 by 3;2>1 by 1;1>5 by 4;", true},
		{"with nothing to go back along", back, []int64{0, 0, 0, 0, 0, 0}, 4, 5, "4>2 by 3;2>3 by 2;3>5 by 5;", true},
	} {
		c := mustMake(t, x.n)
		way, ok := dist.Way(c, mustRes(t, c, x.f...), x.s, x.t)
		if got := show(c, way); got != x.want || ok != x.ok {
			t.Errorf("%s: Way is %s, %t, want %s, %t", x.name, got, ok, x.want, x.ok)
		}
	}
}

// P5.2: an arc of a greater number that leads nearer comes ahead of one of a lesser number that does not.
func TestWayGoesNoWayRound(t *testing.T) {
	n := api.Net{N: 4, S: 0, T: 3, Arcs: []api.Arc{arc(0, 1, 1), arc(1, 2, 1), arc(2, 3, 1), arc(0, 2, 1), arc(0, 3, 0)}}
	c := mustMake(t, n)
	res := mustRes(t, c, 0, 0, 0, 0, 0)
	way, ok := dist.Way(c, res, 0, 3)
	if got := show(c, way); got != "0>2 by 3;2>3 by 2;" || !ok {
		t.Errorf("Way is %s, %t", got, ok)
	}
	res[slices.Index(c.Arc, 4)] = 1
	way, ok = dist.Way(c, res, 0, 3)
	if got := show(c, way); got != "0>3 by 4;" || !ok {
		t.Errorf("Way is %s, %t", got, ok)
	}
}

// P5.3: rows are in increasing order, whatever the order in which their vertices are found; there is no list for N.
func TestRows(t *testing.T) {
	// From 0, the search finds 5 ahead of 3 and 4, and 6, by 5, ahead of 1, by 3.
	n := api.Net{N: 8, S: 7, T: 0, Arcs: []api.Arc{arc(5, 0, 1), arc(4, 0, 1), arc(3, 0, 1), arc(6, 5, 1), arc(1, 3, 1), arc(0, 2, 1), arc(2, 7, 1)}}
	c := mustMake(t, n)
	for _, x := range []struct {
		name string
		f    []int64
		t    int
		want [][]int
	}{
		{"nothing sent", make([]int64, 7), 0, [][]int{{0}, {3, 4, 5}, {1, 6}}},
		{"one arc is full", []int64{1, 0, 0, 0, 0, 0, 0}, 0, [][]int{{0}, {3, 4}, {1}}},
		{"a way back", []int64{0, 0, 0, 0, 0, 1, 0}, 0, [][]int{{0}, {2, 3, 4, 5}, {1, 6}}},
		{"two ways back", []int64{0, 0, 0, 0, 0, 1, 1}, 0, [][]int{{0}, {2, 3, 4, 5}, {1, 6, 7}}},
		{"nothing leads there", make([]int64, 7), 6, [][]int{{6}}},
		{"one in each list", make([]int64, 7), 7, [][]int{{7}, {2}, {0}, {3, 4, 5}, {1, 6}}},
	} {
		if got := dist.Rows(c, mustRes(t, c, x.f...), x.t); !sameRows(got, x.want) {
			t.Errorf("%s: Rows is %v, want %v", x.name, got, x.want)
		}
	}
	// All vertices in one list, whose arcs are in the order that is the worst for it.
	star := api.Net{N: 1 << 12, S: 1, T: 0}
	for v := star.N - 1; v > 0; v-- {
		star.Arcs = append(star.Arcs, arc(v, 0, 1))
	}
	c = mustMake(t, star)
	rows := dist.Rows(c, slices.Repeat([]int64{1}, csr.Len(c)), 0)
	if len(rows) != 2 || !slices.Equal(rows[0], []int{0}) || len(rows[1]) != star.N-1 || !slices.IsSorted(rows[1]) {
		t.Errorf("Rows is %s", brief(rows))
	}
}
