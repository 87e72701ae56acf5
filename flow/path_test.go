package flow_test

import (
	"math"
	"slices"
	"strconv"
	"strings"
	"testing"

	"acequia/api"
	"acequia/flow"
)

// hops are written as the indices of their arcs, with b behind those that go back.
func hops(text string) []api.Hop {
	var l []api.Hop
	for _, word := range strings.Fields(text) {
		index, back := strings.CutSuffix(word, "b")
		i, err := strconv.Atoi(index)
		if err != nil {
			panic(err)
		}
		l = append(l, api.Hop{Arc: i, Back: back})
	}
	return l
}

func checkRoom(t *testing.T, n api.Net, f []int64, l []api.Hop, want int64, wantErr api.Errno) {
	t.Helper()
	if got, err := flow.Room(n, f, l); got != want || err != wantErr {
		t.Errorf("Room(%s, %s, %s) is %d, %d, want %d, %d", brief(n), brief(f), brief(l), got, err, want, wantErr)
	}
}

func checkSend(t *testing.T, n api.Net, f []int64, l []api.Hop, d int64, want []int64, wantErr api.Errno) {
	t.Helper()
	if got, err := flow.Send(n, f, l, d); !slices.Equal(got, want) || err != wantErr {
		t.Errorf("Send(%s, %s, %s, %d) is %s, %d, want %s, %d", brief(n), brief(f), brief(l), d, brief(got), err, brief(want), wantErr)
	}
}

// P3.2: the chapter's examples.
func TestPathsOfTheExamples(t *testing.T) {
	n, f := example(), []int64{3, 4, 3, 4, 0}
	checkRoom(t, n, f, hops("0 4 3"), 2, api.OK)
	checkSend(t, n, f, hops("0 4 3"), 2, []int64{5, 4, 3, 6, 2}, api.OK)
	checkRoom(t, n, f, hops("0b 1"), 0, api.OK)
	checkSend(t, n, f, hops("0b 1"), 0, f, api.OK)
	checkSend(t, n, f, hops("0b 1"), 1, nil, api.ErrArg)
}

// P3.2: what is sent at the room changes f so; -1 and one more than the room are ErrArg.
func TestPaths(t *testing.T) {
	ex, exF := example(), []int64{3, 4, 3, 4, 0}
	mix, mixF := mixed(), []int64{1, 5, 2, 1, 3, 0, 4, 0, 6}
	for _, x := range []struct {
		name string
		n    api.Net
		f    []int64
		path string
		room int64
		want []int64
	}{
		{"forward", ex, exF, "0", 2, []int64{5, 4, 3, 4, 0}},
		{"backward", ex, exF, "0b", 3, []int64{0, 4, 3, 4, 0}},
		{"forward, full", ex, exF, "1", 0, exF},
		{"backward, empty", ex, exF, "4b", 0, exF},
		{"the first arc is the narrowest", ex, []int64{4, 0, 0, 0, 0}, "0 2", 1, []int64{5, 0, 1, 0, 0}},
		{"the last arc is the narrowest", ex, []int64{0, 0, 2, 0, 0}, "0 2", 1, []int64{1, 0, 3, 0, 0}},
		{"back over the example", ex, exF, "3b 1b 0 2", 0, exF},
		{"back and forth between vertices", ex, []int64{3, 3, 2, 4, 1}, "1 4b 2", 1, []int64{3, 4, 3, 4, 0}},
		{"a circle", ex, []int64{1, 2, 0, 0, 1}, "0 4 1b", 1, []int64{2, 1, 0, 0, 2}},
		{"of numbers that are no preflow", ex, []int64{0, 0, 3, 0, 2}, "3 2b", 3, []int64{0, 0, 0, 3, 2}},
		{"parallel arcs there and back", mix, mixF, "0 3b", 1, []int64{2, 5, 2, 0, 3, 0, 4, 0, 6}},
		{"two directions, both back", mix, mixF, "2b 0b", 1, []int64{0, 5, 1, 1, 3, 0, 4, 0, 6}},
		{"back, then forward", mix, mixF, "2b 4", 1, []int64{1, 5, 1, 1, 4, 0, 4, 0, 6}},
		{"a self-loop forward", mix, mixF, "1", 3, []int64{1, 8, 2, 1, 3, 0, 4, 0, 6}},
		{"a self-loop backward", mix, mixF, "1b", 5, []int64{1, 0, 2, 1, 3, 0, 4, 0, 6}},
		{"a self-loop twice", mix, mixF, "1 1", 1, []int64{1, 7, 2, 1, 3, 0, 4, 0, 6}},
		{"a self-loop twice back", mix, mixF, "1b 1b", 2, []int64{1, 1, 2, 1, 3, 0, 4, 0, 6}},
		{"a self-loop thrice, once back", mix, mixF, "1 1b 1", 3, []int64{1, 8, 2, 1, 3, 0, 4, 0, 6}},
		{"a self-loop at the beginning", mix, mixF, "1 0", 2, []int64{3, 7, 2, 1, 3, 0, 4, 0, 6}},
		{"a self-loop at the end", mix, mixF, "4 7", 1, []int64{1, 5, 2, 1, 4, 0, 4, 1, 6}},
		{"no capacity, forward", mix, mixF, "5", 0, mixF},
		{"no capacity, backward", mix, mixF, "5b", 0, mixF},
	} {
		t.Run(x.name, func(t *testing.T) { checkPath(t, x.n, x.f, hops(x.path), x.room, x.want) })
	}
}

// checkPath checks the room of a path, what is there when all of it is sent, and the edges of what may be sent.
func checkPath(t *testing.T, n api.Net, f []int64, l []api.Hop, room int64, want []int64) {
	t.Helper()
	checkRoom(t, n, f, l, room, api.OK)
	checkSend(t, n, f, l, room, want, api.OK)
	checkSend(t, n, f, l, 0, f, api.OK)
	for _, d := range []int64{room + 1, -1, math.MaxInt64, math.MinInt64} {
		checkSend(t, n, f, l, d, nil, api.ErrArg)
	}
}

// P3.2: paths that go over an arc several times, or forward and backward; quotients are rounded down.
func TestPathsOverAnArcAgain(t *testing.T) {
	ring := api.Net{N: 3, S: 0, T: 2, Arcs: []api.Arc{arc(0, 1, 7), arc(1, 0, 9), arc(1, 2, 4)}}
	for _, x := range []struct {
		name string
		f    []int64
		path string
		room int64
		want []int64
	}{
		{"twice", []int64{0, 0, 0}, "0 1 0", 3, []int64{6, 3, 0}},
		{"thrice, and the other one twice", []int64{0, 0, 0}, "0 1 0 1 0", 2, []int64{6, 4, 0}},
		{"thrice, where nothing is left over", []int64{1, 0, 0}, "0 1 0 1 0", 2, []int64{7, 4, 0}},
		{"thrice, where one is missing", []int64{2, 0, 0}, "0 1 0 1 0", 1, []int64{5, 2, 0}},
		{"the other one is the narrower one", []int64{0, 7, 0}, "0 1 0 1", 1, []int64{2, 9, 0}},
		{"more often than there is room", []int64{0, 0, 0}, strings.Repeat("0 1 ", 8), 0, []int64{0, 0, 0}},
		{"as often as there is room", []int64{0, 0, 0}, strings.Repeat("0 1 ", 7), 1, []int64{7, 7, 0}},
		{"twice back", []int64{7, 9, 0}, "0b 1b 0b", 3, []int64{1, 6, 0}},
		{"thrice back", []int64{7, 9, 0}, "1b 0b 1b 0b 1b", 3, []int64{1, 0, 0}},
		{"twice back, with one", []int64{1, 9, 0}, "0b 1b 0b", 0, []int64{1, 9, 0}},
		{"there and back", []int64{7, 0, 0}, "0 0b", 1 << 62, []int64{7, 0, 0}},
		{"back and there", []int64{0, 0, 0}, "0b 0", 1 << 62, []int64{0, 0, 0}},
		{"there and back, twice", []int64{5, 0, 0}, "0 0b 0 0b", 1 << 62, []int64{5, 0, 0}},
		{"there and back on two arcs", []int64{5, 9, 4}, "0 2 2b 0b", 1 << 62, []int64{5, 9, 4}},
		{"there and back on a full arc, then on", []int64{7, 0, 3}, "0 0b 1b 2", 0, []int64{7, 0, 3}},
		{"over an empty arc back and there, then on", []int64{0, 9, 1}, "1b 1 1b 2", 3, []int64{0, 6, 4}},
		{"once more there than back", []int64{3, 0, 0}, "0 0b 0", 4, []int64{7, 0, 0}},
		{"once more back than there", []int64{3, 0, 0}, "0b 0 0b", 3, []int64{0, 0, 0}},
		{"thrice there, once back", []int64{2, 0, 0}, "0 1 0 0b 0", 2, []int64{6, 2, 0}},
		{"thrice back, once there", []int64{5, 9, 0}, "0b 1b 0b 0 0b", 2, []int64{1, 7, 0}},
		{"no hops", []int64{7, 9, 4}, "", 1 << 62, []int64{7, 9, 4}},
	} {
		t.Run(x.name, func(t *testing.T) { checkPath(t, ring, x.f, hops(x.path), x.room, x.want) })
	}
}

// P3.2: a room of MaxSum, by an arc of that capacity, and where there is no arc at all.
func TestGreatRooms(t *testing.T) {
	great := api.Net{N: 2, S: 0, T: 1, Arcs: []api.Arc{arc(0, 1, 1<<62), arc(1, 0, 0)}}
	checkPath(t, great, []int64{0, 0}, hops("0"), 1<<62, []int64{1 << 62, 0})
	checkPath(t, great, []int64{1 << 62, 0}, hops("0b"), 1<<62, []int64{0, 0})
	checkPath(t, great, []int64{1, 0}, hops("0"), 1<<62-1, []int64{1 << 62, 0})
	checkPath(t, great, []int64{0, 0}, hops("0 0b 0"), 1<<62, []int64{1 << 62, 0})
	checkPath(t, great, []int64{1 << 62, 0}, hops("1 1b 0b 0"), 1<<62, []int64{1 << 62, 0})
	checkPath(t, great, []int64{1 << 62, 0}, []api.Hop{}, 1<<62, []int64{1 << 62, 0})
	checkPath(t, api.Net{N: 2, S: 0, T: 1}, nil, nil, 1<<62, nil)
	checkSend(t, great, []int64{1 << 62, 0}, nil, 1<<62-1, []int64{1 << 62, 0}, api.OK)
	loop := api.Net{N: 2, S: 0, T: 1, Arcs: []api.Arc{arc(1, 1, 1<<62)}}
	checkPath(t, loop, []int64{0}, hops("0 0"), 1<<61, []int64{1 << 62})
	checkPath(t, loop, []int64{1}, hops("0 0"), 1<<61-1, []int64{1<<62 - 1})
}

// P3.2, R2: hops along no arc of the network, hops that do not begin where the one before ends, and the order of the errors.
func TestPathErrors(t *testing.T) {
	f, few, above := []int64{3, 4, 3, 4, 0}, []int64{3, 4, 3, 4}, []int64{3, 5, 3, 4, 0}
	for _, x := range []struct {
		name string
		f    []int64
		path string
		d    int64
		room api.Errno
		send api.Errno
	}{
		{"an arc beyond the last one", f, "5", 0, api.ErrArc, api.ErrArc},
		{"an arc beyond the last one, back", f, "5b", 0, api.ErrArc, api.ErrArc},
		{"arc -1", f, "-1", 0, api.ErrArc, api.ErrArc},
		{"arc -1, back", f, "-1b", 0, api.ErrArc, api.ErrArc},
		{"the greatest index", f, "9223372036854775807", 0, api.ErrArc, api.ErrArc},
		{"the least index", f, "-9223372036854775808b", 0, api.ErrArc, api.ErrArc},
		{"an arc beyond the last one, at the end", f, "0 2 5", 0, api.ErrArc, api.ErrArc},
		{"arc -1, at the end", f, "0 2 -1", 0, api.ErrArc, api.ErrArc},
		{"an arc that begins elsewhere", f, "0 3", 0, api.ErrArc, api.ErrArc},
		{"the same arc again", f, "0 0", 0, api.ErrArc, api.ErrArc},
		{"the same arc back again", f, "0b 0b", 0, api.ErrArc, api.ErrArc},
		{"an arc that ends where the one before ends", f, "2 3", 0, api.ErrArc, api.ErrArc},
		{"an arc that begins where the one before begins", f, "0 1", 0, api.ErrArc, api.ErrArc},
		{"back from elsewhere", f, "0 2b", 0, api.ErrArc, api.ErrArc},
		{"a gap at the end", f, "0 4 3 2", 0, api.ErrArc, api.ErrArc},
		{"a gap behind there and back", f, "0 0b 2", 0, api.ErrArc, api.ErrArc},
		{"no path, and -1 sent", f, "0 3", -1, api.ErrArc, api.ErrArc},
		{"no arc, and too much sent", f, "5", math.MaxInt64, api.ErrArc, api.ErrArc},
		{"too few numbers", few, "0", 0, api.ErrFlow, api.ErrFlow},
		{"too few numbers, no path", few, "0 3", 0, api.ErrFlow, api.ErrFlow},
		{"too few numbers, no arc, -1 sent", few, "5", -1, api.ErrFlow, api.ErrFlow},
		{"above a capacity, no path", above, "0 3", 0, api.ErrFlow, api.ErrFlow},
		{"above a capacity, too much sent", above, "0", 99, api.ErrFlow, api.ErrFlow},
		{"above a capacity that the path does not go over", above, "0", 0, api.ErrFlow, api.ErrFlow},
		{"above a capacity, no hops", above, "", 0, api.ErrFlow, api.ErrFlow},
	} {
		t.Run(x.name, func(t *testing.T) {
			checkRoom(t, example(), x.f, hops(x.path), 0, x.room)
			checkSend(t, example(), x.f, hops(x.path), x.d, nil, x.send)
		})
	}
}

// P3.2: where there is no arc there is no hop either, but the path without hops.
func TestPathsWithoutArcs(t *testing.T) {
	for _, path := range []string{"0", "0b", "-1", "1"} {
		checkRoom(t, api.Net{N: 2, S: 0, T: 1}, nil, hops(path), 0, api.ErrArc)
		checkSend(t, api.Net{N: 2, S: 0, T: 1}, nil, hops(path), 0, nil, api.ErrArc)
	}
}

// P3.2: the room of a very long path, and of one that goes over as many arcs as there may be.
func TestLongPaths(t *testing.T) {
	ring := api.Net{N: 2, S: 0, T: 1, Arcs: []api.Arc{arc(0, 1, 3<<20), arc(1, 0, 5<<20)}}
	checkPath(t, ring, []int64{0, 0}, slices.Repeat(hops("0 1"), 1<<20), 3, []int64{3 << 20, 3 << 20})
	checkPath(t, ring, []int64{0, 5 << 20}, slices.Repeat(hops("1b 1"), 1<<20), 1<<62, []int64{0, 5 << 20})
	n := api.Net{N: 1 << 12, S: 0, T: 1}
	var path []api.Hop
	for i := range 1 << 14 {
		from, to := i%(1<<12), (i+1)%(1<<12)
		if i%3 == 0 {
			from, to = to, from
		}
		n.Arcs = append(n.Arcs, arc(from, to, 9))
		path = append(path, api.Hop{Arc: i, Back: i%3 == 0})
	}
	f, want := make([]int64, 1<<14), make([]int64, 1<<14)
	for i := range f {
		f[i], want[i] = 4, 8
		if i%3 == 0 {
			want[i] = 0
		}
	}
	checkPath(t, n, f, path, 4, want)
	f[1<<14-1] = 1 // the last hop goes back
	checkRoom(t, n, f, path, 1, api.OK)
	path[1<<14-1].Back = !path[1<<14-1].Back
	checkRoom(t, n, f, path, 0, api.ErrArc)
}
