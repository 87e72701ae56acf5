package flow_test

import (
	"math"
	"slices"
	"testing"

	"acequia/api"
	"acequia/flow"
)

// scribble writes over a list, and over the spare room behind it.
func scribble[E any](list []E, with E) {
	list = list[:cap(list)]
	for i := range list {
		list[i] = with
	}
}

// withSpare is a list in front of spare room that belongs to somebody else; the second result is all of it.
func withSpare[E any](list []E, spare E) ([]E, []E) {
	all := append(slices.Clone(list), spare, spare, spare)
	return all[:len(list)], all
}

// calls are all functions of the package, for a list of hops and a number to send; what they return is written over.
func calls(l []api.Hop, d int64) map[string]func(n api.Net, f []int64) {
	return map[string]func(n api.Net, f []int64){
		"Within": func(n api.Net, f []int64) { flow.Within(n, f) },
		"Excess": func(n api.Net, f []int64) { excess, _ := flow.Excess(n, f); scribble(excess, -77) },
		"Pre":    func(n api.Net, f []int64) { flow.Pre(n, f) },
		"Right":  func(n api.Net, f []int64) { flow.Right(n, f) },
		"Value":  func(n api.Net, f []int64) { flow.Value(n, f) },
		"Room":   func(n api.Net, f []int64) { flow.Room(n, f, l) },
		"Send":   func(n api.Net, f []int64) { sent, _ := flow.Send(n, f, l, d); scribble(sent, -77) },
	}
}

// R3: no call changes its arguments, nor the spare room of its lists, whether it succeeds or not; nor does what is written to its results.
func TestArgumentsAreNotChanged(t *testing.T) {
	for _, f := range [][]int64{{3, 4, 3, 4, 0}, {5, 4, 3, 4, 0}, {0, 0, 0, 0, 9}, {}} {
		for _, path := range []string{"", "0 4 3", "0b 1", "0 0b", "0 3", "5"} {
			for _, d := range []int64{-1, 0, 2, 1 << 62} {
				checkUnchanged(t, f, path, d)
			}
		}
	}
}

func checkUnchanged(t *testing.T, f []int64, path string, d int64) {
	t.Helper()
	n := example()
	l, allL := withSpare(hops(path), api.Hop{Arc: 9})
	f, allF := withSpare(f, 9)
	var allArcs []api.Arc
	n.Arcs, allArcs = withSpare(n.Arcs, arc(9, 9, 9))
	beforeL, beforeF, beforeArcs := slices.Clone(allL), slices.Clone(allF), slices.Clone(allArcs)
	for name, call := range calls(l, d) {
		call(n, f)
		if !slices.Equal(allL, beforeL) || !slices.Equal(allF, beforeF) || !slices.Equal(allArcs, beforeArcs) {
			t.Fatalf("%s has changed its arguments: %v, %v, %v", name, allArcs, allF, allL)
		}
	}
}

// R3: what Send returns is new even where nothing is sent, and results of different calls share no memory.
func TestResultsAreNew(t *testing.T) {
	n, want := example(), []int64{3, 4, 3, 4, 0}
	f := slices.Clone(want)
	for _, path := range []string{"", "0 0b", "0 4 3"} {
		one, _ := flow.Send(n, f, hops(path), 0)
		two, _ := flow.Send(n, f, hops(path), 0)
		scribble(one, -77)
		if !slices.Equal(f, want) || !slices.Equal(two, want) {
			t.Errorf("%q: the result of Send shares memory: %v, %v", path, f, two)
		}
		scribble(f, -1)
		if !slices.Equal(two, want) {
			t.Errorf("%q: the result of Send changes with its argument: %v", path, two)
		}
		copy(f, want)
	}
	one, _ := flow.Excess(n, f)
	two, _ := flow.Excess(n, f)
	scribble(one, -77)
	scribble(f, -1)
	scribble(n.Arcs, arc(-1, -1, -1))
	if !slices.Equal(two, []int64{-7, 0, 0, 7}) {
		t.Errorf("the result of Excess shares memory: %v", two)
	}
}

// R4: the same call returns the same again, however often: a path over many arcs, of which any may be looked at first.
func TestTheSameAgain(t *testing.T) {
	n, f := example(), []int64{1, 2, 1, 2, 1}
	path := hops("0 2 3b 1b 0 4 1b 0 0b 1 3")
	room, err := flow.Room(n, f, path)
	sent, _ := flow.Send(n, f, path, room)
	for range 200 {
		if again, e := flow.Room(n, f, path); again != room || e != err {
			t.Fatalf("Room is %d, %d, then %d, %d", room, err, again, e)
		}
		if again, _ := flow.Send(n, f, path, room); !slices.Equal(again, sent) {
			t.Fatalf("Send is %v, then %v", sent, again)
		}
	}
}

// R1: no call panics, whatever the arguments.
func TestAnyArguments(t *testing.T) {
	numbers := []int{math.MinInt, -1, 0, 1, 2, 1 << 12, math.MaxInt}
	caps := []int64{math.MinInt64, -1, 0, 1 << 62, math.MaxInt64}
	for _, x := range numbers {
		for _, y := range numbers {
			for _, z := range numbers {
				for _, w := range caps {
					callAll(api.Net{N: x, S: y, T: z, Arcs: []api.Arc{arc(y, z, w), arc(z, y, 0), arc(0, 1, 0)}})
				}
			}
		}
	}
	callAll(api.Net{})
	callAll(example())
	callAll(mixed())
	for _, n := range wrongNets() {
		callAll(n)
	}
}

// callAll calls everything with numbers, hops and amounts of all kinds.
func callAll(n api.Net) {
	full := make([]int64, len(n.Arcs))
	for i, a := range n.Arcs {
		full[i] = a.Cap
	}
	amounts := []int64{math.MinInt64, -1, 0, 1, 1 << 62, 1<<62 + 1, math.MaxInt64}
	paths := []string{"", "0", "1b", "0 1", "0 1 0", "0 0b", "0b 0", "2", "3", "-1", "9223372036854775807b", "-9223372036854775808"}
	for _, f := range [][]int64{nil, {0}, {math.MinInt64, math.MaxInt64, 0}, make([]int64, len(n.Arcs)), full} {
		for _, path := range paths {
			for _, d := range amounts {
				flow.Send(n, f, hops(path), d)
			}
		}
		for _, call := range calls(nil, 0) {
			call(n, slices.Clone(f))
		}
	}
}
