package cut_test

import (
	"math"
	"slices"
	"testing"

	"acequia/api"
	"acequia/cut"
)

// scribble writes over a list, and over the spare room behind it.
func scribble[E any](list []E, with E) {
	list = list[:cap(list)]
	for i := range list {
		list[i] = with
	}
}

// withSpare is a list in front of spare room that belongs to somebody else; the second result is all of it.
func withSpare[E any](list []E, spare E) ([]E, []E) {
	all := append(slices.Clone(list), spare, spare, spare)
	return all[:len(list)], all
}

// calls are all functions of the package; those that return a side have it written over with what is given.
func calls(with bool) map[string]func(n api.Net, f []int64, a, b []bool) {
	return map[string]func(n api.Net, f []int64, a, b []bool){
		"Right":  func(n api.Net, f []int64, a, b []bool) { cut.Right(n, a) },
		"Cap":    func(n api.Net, f []int64, a, b []bool) { cut.Cap(n, a) },
		"Across": func(n api.Net, f []int64, a, b []bool) { cut.Across(n, f, a) },
		"Tight":  func(n api.Net, f []int64, a, b []bool) { cut.Tight(n, f, a) },
		"From":   func(n api.Net, f []int64, a, b []bool) { s, _ := cut.From(n, f); scribble(s, with) },
		"To":     func(n api.Net, f []int64, a, b []bool) { s, _ := cut.To(n, f); scribble(s, with) },
		"And":    func(n api.Net, f []int64, a, b []bool) { scribble(cut.And(a, b), with) },
		"Or":     func(n api.Net, f []int64, a, b []bool) { scribble(cut.Or(a, b), with) },
	}
}

// R3: no call changes its arguments, nor the spare room of its lists, whether it succeeds or not; nor does what is written to its results.
func TestArgumentsAreNotChanged(t *testing.T) {
	for _, f := range [][]int64{{3, 4, 3, 4, 0}, {5, 4, 3, 6, 2}, {0, 0, 0, 0, 9}, {}} {
		for _, a := range []string{"", "+---", "++--", "+--+", "+-"} {
			for _, b := range []string{"", "+---", "+++-", "--"} {
				checkUnchanged(t, f, a, b)
			}
		}
	}
}

func checkUnchanged(t *testing.T, f []int64, textA, textB string) {
	t.Helper()
	for _, with := range []bool{false, true} {
		n := example()
		f, allF := withSpare(f, 9)
		a, allA := withSpare(side(textA), !with)
		b, allB := withSpare(side(textB), !with)
		var allArcs []api.Arc
		n.Arcs, allArcs = withSpare(n.Arcs, arc(9, 9, 9))
		beforeF, beforeA, beforeB, beforeArcs := slices.Clone(allF), slices.Clone(allA), slices.Clone(allB), slices.Clone(allArcs)
		for name, call := range calls(with) {
			call(n, f, a, b)
			if !slices.Equal(allF, beforeF) || !slices.Equal(allA, beforeA) || !slices.Equal(allB, beforeB) || !slices.Equal(allArcs, beforeArcs) {
				t.Fatalf("%s has changed its arguments: %v, %v, %v, %v", name, allArcs, allF, allA, allB)
			}
		}
	}
}

// results are the functions that return a side.
func results() map[string]func(n api.Net, f []int64, a, b []bool) []bool {
	return map[string]func(n api.Net, f []int64, a, b []bool) []bool{
		"From": func(n api.Net, f []int64, a, b []bool) []bool { s, _ := cut.From(n, f); return s },
		"To":   func(n api.Net, f []int64, a, b []bool) []bool { s, _ := cut.To(n, f); return s },
		"And":  func(n api.Net, f []int64, a, b []bool) []bool { return cut.And(a, b) },
		"Or":   func(n api.Net, f []int64, a, b []bool) []bool { return cut.Or(a, b) },
	}
}

// R3, R4: what a call returns does not change with its arguments, nor with what another call has returned; the same call returns the same again. Sides that are the same, or of which one is empty, are copied as well.
func TestResultsAreNew(t *testing.T) {
	for name, call := range results() {
		for _, pair := range [][2]string{{"++--", "+-+-"}, {"++--", "++--"}, {"++--", ""}, {"", "++--"}, {"++--", "+"}, {"+", "++--"}} {
			for _, f := range [][]int64{{5, 4, 3, 6, 2}, {3, 4, 3, 4, 0}} {
				n, f, a, b := example(), slices.Clone(f), side(pair[0]), side(pair[1])
				first := call(n, f, a, b)
				want := plusMinus(first)
				second := call(n, f, a, b)
				for i := range first {
					first[i] = !first[i]
				}
				if got := plusMinus(second); got != want {
					t.Errorf("%s of %q: two results share memory, or differ: %s, was %s", name, pair, got, want)
				}
				scribble(n.Arcs, arc(-1, -1, -1))
				scribble(f, -1)
				for i := range a {
					a[i] = !a[i]
				}
				for i := range b {
					b[i] = !b[i]
				}
				if got := plusMinus(second); got != want {
					t.Errorf("%s of %q: the result changes with the arguments: %s, was %s", name, pair, got, want)
				}
			}
		}
	}
}

// R3: And and Or of a side and itself are apart from it, and from one another.
func TestAndOrOfASideAndItself(t *testing.T) {
	s := side("+-+-")
	and, or := cut.And(s, s), cut.Or(s, s)
	scribble(and, false)
	if plusMinus(s) != "+-+-" || plusMinus(or) != "+-+-" {
		t.Errorf("And shares memory: %s, %s", plusMinus(s), plusMinus(or))
	}
	scribble(or, true)
	if plusMinus(s) != "+-+-" || plusMinus(and) != "----" {
		t.Errorf("Or shares memory: %s, %s", plusMinus(s), plusMinus(and))
	}
}

// R1: no call panics, whatever the arguments.
func TestAnyArguments(t *testing.T) {
	numbers := []int{math.MinInt, -1, 0, 1, 2, 1 << 12, math.MaxInt}
	for _, x := range numbers {
		for _, y := range numbers {
			for _, z := range numbers {
				for _, w := range []int64{math.MinInt64, -1, 0, 1 << 62, math.MaxInt64} {
					callAll(api.Net{N: x, S: y, T: z, Arcs: []api.Arc{arc(y, z, w), arc(z, y, 0), arc(0, 1, 0)}})
				}
			}
		}
	}
	for _, n := range wrongNets() {
		callAll(n)
	}
	callAll(api.Net{})
	callAll(example())
	callAll(tangle())
}

// callAll calls everything with numbers and sides of all kinds.
func callAll(n api.Net) {
	for _, f := range [][]int64{nil, {0}, {math.MinInt64, math.MaxInt64, 0}, make([]int64, len(n.Arcs)), caps(n)} {
		for _, text := range []string{"", "+", "-", "+-", "-+", "++", "--", "+--", "+---", "----+"} {
			for _, call := range calls(true) {
				call(n, f, side(text), side("-+-"))
			}
		}
	}
}
