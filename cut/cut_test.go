package cut_test

import (
	"fmt"
	"math"
	"slices"
	"strings"
	"testing"

	"acequia/api"
	"acequia/cut"
)

// arc is short for the literals below.
func arc(from, to int, cap int64) api.Arc { return api.Arc{From: from, To: to, Cap: cap} }

// example is the network of the examples of chapters 1 and 4.
func example() api.Net {
	return api.Net{N: 4, S: 0, T: 3, Arcs: []api.Arc{arc(0, 1, 5), arc(0, 2, 4), arc(1, 3, 3), arc(2, 3, 6), arc(1, 2, 2)}}
}

// tangle has self-loops (one at S, one at T), parallel arcs, arcs against each other, one of no capacity, one out of T, one into S, and a vertex (3) without arcs.
func tangle() api.Net {
	return api.Net{N: 5, S: 4, T: 1, Arcs: []api.Arc{
		arc(4, 0, 2), arc(4, 4, 1), arc(0, 4, 1), arc(4, 0, 1), arc(0, 2, 0), arc(2, 0, 1), arc(0, 1, 2), arc(1, 1, 1), arc(1, 2, 1), arc(4, 2, 1),
	}}
}

// side is written as + for each vertex that is in it, and - for each that is not.
func side(text string) []bool {
	var s []bool
	for _, c := range text {
		s = append(s, c == '+')
	}
	return s
}

// plusMinus writes a side so again.
func plusMinus(s []bool) string {
	text := ""
	for _, in := range s {
		if in {
			text += "+"
		} else {
			text += "-"
		}
	}
	return text
}

// brief is the beginning of what x looks like, as the largest networks would fill pages.
func brief(x any) string {
	if s, ok := x.([]bool); ok {
		x = plusMinus(s)
	}
	return fmt.Sprintf("%.200s", fmt.Sprint(x))
}

// allSides calls f with all sides of so many vertices.
func allSides(length int, f func(s []bool)) {
	for set := range 1 << length {
		s := make([]bool, length)
		for v := range s {
			s[v] = set>>v&1 == 1
		}
		f(s)
	}
}

// allNumbers calls f with all numbers on the arcs of n from -beyond to so much beyond the capacities.
func allNumbers(n api.Net, beyond int64, f func(f []int64)) {
	list := slices.Repeat([]int64{-beyond}, len(n.Arcs))
	for {
		f(list)
		at := 0
		for at < len(list) && list[at] == n.Arcs[at].Cap+beyond {
			list[at] = -beyond
			at++
		}
		if at == len(list) {
			return
		}
		list[at]++
	}
}

// smallNets calls f with networks of three vertices with up to three arcs of small capacities, self-loops and parallel arcs among them.
func smallNets(f func(n api.Net)) {
	var arcs []api.Arc
	for ends := range 9 {
		arcs = append(arcs, arc(ends/3, ends%3, 0), arc(ends/3, ends%3, 2))
	}
	n := api.Net{N: 3, S: 1, T: 0}
	f(n)
	for _, a := range arcs {
		n.Arcs = []api.Arc{a}
		f(n)
		for _, b := range arcs {
			n.Arcs = []api.Arc{a, b}
			f(n)
			for ends := range 9 {
				n.Arcs = []api.Arc{a, b, arc(ends/3, ends%3, 1)}
				f(n)
			}
		}
	}
}

// wantRight is the chapter's definition of a cut, written anew for valid networks.
func wantRight(n api.Net, s []bool) bool {
	return len(s) == n.N && s[n.S] && !s[n.T]
}

// wantWithin is the definition of numbers within the capacities, written anew for valid networks.
func wantWithin(n api.Net, f []int64) bool {
	if len(f) != len(n.Arcs) {
		return false
	}
	for i, a := range n.Arcs {
		if f[i] < 0 || f[i] > a.Cap {
			return false
		}
	}
	return true
}

// total adds the numbers of all arcs from the vertices in one side to those not in another one.
func total(n api.Net, numbers []int64, from, notTo []bool) int64 {
	sum := int64(0)
	for i, a := range n.Arcs {
		if from[a.From] && !notTo[a.To] {
			sum += numbers[i]
		}
	}
	return sum
}

// opposite is the side of all other vertices.
func opposite(s []bool) []bool {
	other := make([]bool, len(s))
	for v, in := range s {
		other[v] = !in
	}
	return other
}

// caps lists the capacities.
func caps(n api.Net) []int64 {
	var list []int64
	for _, a := range n.Arcs {
		list = append(list, a.Cap)
	}
	return list
}

func checkCap(t *testing.T, n api.Net, s []bool, want int64, wantErr api.Errno) {
	t.Helper()
	if got := cut.Right(n, s); got != (wantErr == api.OK) {
		t.Errorf("Right(%s, %s) is %t", brief(n), brief(s), got)
	}
	if got, err := cut.Cap(n, s); got != want || err != wantErr {
		t.Errorf("Cap(%s, %s) is %d, %d, want %d, %d", brief(n), brief(s), got, err, want, wantErr)
	}
}

func checkAcross(t *testing.T, n api.Net, f []int64, s []bool, want int64, wantErr api.Errno, tight bool) {
	t.Helper()
	if got, err := cut.Across(n, f, s); got != want || err != wantErr {
		t.Errorf("Across(%s, %s, %s) is %d, %d, want %d, %d", brief(n), brief(f), brief(s), got, err, want, wantErr)
	}
	if got := cut.Tight(n, f, s); got != tight {
		t.Errorf("Tight(%s, %s, %s) is %t", brief(n), brief(f), brief(s), got)
	}
}

// checkByDefinition compares all that P4.1 says of a side and numbers to the definitions, for a valid network.
func checkByDefinition(t *testing.T, n api.Net, f []int64, s []bool) {
	t.Helper()
	switch {
	case !wantRight(n, s):
		checkCap(t, n, s, 0, api.ErrArg)
		checkAcross(t, n, f, s, 0, api.ErrArg, false)
	case !wantWithin(n, f):
		checkCap(t, n, s, total(n, caps(n), s, s), api.OK)
		checkAcross(t, n, f, s, 0, api.ErrFlow, false)
	default:
		most, out, in := total(n, caps(n), s, s), total(n, f, s, s), total(n, f, opposite(s), opposite(s))
		checkCap(t, n, s, most, api.OK)
		// No number is above its capacity, so all are as great as they can be if their sum is.
		checkAcross(t, n, f, s, out-in, api.OK, out == most && in == 0)
	}
}

// P4.1: the chapter's examples.
func TestExamples(t *testing.T) {
	n, f := example(), []int64{5, 4, 3, 6, 2}
	checkCap(t, n, side("+---"), 9, api.OK)
	checkCap(t, n, side("++--"), 9, api.OK)
	checkCap(t, n, side("+-+-"), 11, api.OK)
	checkCap(t, n, side("+++-"), 9, api.OK)
	checkAcross(t, n, f, side("++--"), 9, api.OK, true)
	checkAcross(t, n, f, side("+---"), 9, api.OK, true)
	checkAcross(t, n, f, side("+++-"), 9, api.OK, true)
	checkAcross(t, n, f, side("+-+-"), 9, api.OK, false)
}

// P4.1: a side of another length, without S, or with T, is no cut: ErrArg, whatever the numbers are.
func TestSidesThatAreNoCuts(t *testing.T) {
	for _, text := range []string{
		"", "-", "+", "+--", "++-", "+----", "+---+", "++---", "++--+---", // too short, too long
		"----", "-+--", "-++-", "--+-", // without S
		"+--+", "++-+", "+-++", "++++", // with T
		"---+", "-+++", // without S, with T
	} {
		n := example()
		checkCap(t, n, side(text), 0, api.ErrArg)
		for _, f := range [][]int64{{3, 4, 3, 4, 0}, {5, 4, 3, 6, 2}, make([]int64, 5), nil, {3, 4, 3, 4}, {3, 4, 3, 4, 3}, {-1, 4, 3, 4, 0}} {
			checkAcross(t, n, f, side(text), 0, api.ErrArg, false)
		}
	}
	checkCap(t, example(), nil, 0, api.ErrArg)
	checkAcross(t, example(), []int64{3, 4, 3, 4, 0}, nil, 0, api.ErrArg, false)
	checkAcross(t, example(), nil, nil, 0, api.ErrArg, false)
}

// P4.1: what flows across cuts, and which of them are tight, for flows and for numbers within the capacities that are no flows.
func TestAcross(t *testing.T) {
	for _, x := range []struct {
		name  string
		f     []int64
		side  string
		want  int64
		tight bool
	}{
		{"nothing flows", []int64{0, 0, 0, 0, 0}, "++--", 0, false},
		{"a flow, S alone", []int64{3, 4, 3, 4, 0}, "+---", 7, false},
		{"a flow, all but T", []int64{3, 4, 3, 4, 0}, "+++-", 7, false},
		{"a flow, in between", []int64{3, 4, 3, 4, 0}, "+-+-", 7, false},
		{"a preflow, at S", []int64{5, 4, 3, 4, 0}, "+---", 9, true},
		{"a preflow, at T", []int64{5, 4, 3, 4, 0}, "+++-", 7, false},
		{"a preflow, in between", []int64{5, 4, 3, 4, 0}, "++--", 7, false},
		{"a deficit", []int64{0, 0, 3, 6, 0}, "+++-", 9, true},
		{"a deficit, at S", []int64{0, 0, 3, 6, 0}, "+---", 0, false},
		{"into the cut alone", []int64{0, 0, 0, 0, 2}, "+-+-", -2, false},
		{"out of it and into it", []int64{5, 0, 0, 6, 1}, "+-+-", 10, false},
		{"out of it alone, full", []int64{5, 0, 0, 6, 0}, "+-+-", 11, true},
		{"out of it alone, the first one not full", []int64{4, 0, 0, 6, 0}, "+-+-", 10, false},
		{"out of it alone, the last one not full", []int64{5, 0, 0, 5, 0}, "+-+-", 10, false},
	} {
		t.Run(x.name, func(t *testing.T) { checkAcross(t, example(), x.f, side(x.side), x.want, api.OK, x.tight) })
	}
}

// P4.1: self-loops, parallel arcs, arcs of no capacity, arcs against each other.
func TestKindsOfArcs(t *testing.T) {
	for _, x := range []struct {
		name  string
		arcs  []api.Arc
		f     []int64
		side  string
		cap   int64
		want  int64
		tight bool
	}{
		{"no arcs", nil, nil, "+--", 0, 0, true},
		{"self-loops do not count", []api.Arc{arc(0, 0, 3), arc(1, 1, 4), arc(2, 2, 5)}, []int64{3, 0, 1}, "+--", 0, 0, true},
		{"self-loops beside an arc", []api.Arc{arc(0, 0, 3), arc(0, 2, 6), arc(2, 2, 5)}, []int64{1, 6, 2}, "+--", 6, 6, true},
		{"parallel arcs, full", []api.Arc{arc(0, 1, 3), arc(0, 1, 4)}, []int64{3, 4}, "+--", 7, 7, true},
		{"parallel arcs, one not full", []api.Arc{arc(0, 1, 3), arc(0, 1, 4)}, []int64{3, 3}, "+--", 7, 6, false},
		{"parallel arcs within the cut", []api.Arc{arc(0, 1, 3), arc(0, 1, 4)}, []int64{3, 3}, "++-", 0, 0, true},
		{"no capacity, out", []api.Arc{arc(0, 1, 0), arc(0, 2, 0)}, []int64{0, 0}, "+--", 0, 0, true},
		{"no capacity, in", []api.Arc{arc(1, 0, 0)}, []int64{0}, "+--", 0, 0, true},
		{"against each other, in empty", []api.Arc{arc(0, 1, 3), arc(1, 0, 4)}, []int64{3, 0}, "+--", 3, 3, true},
		{"against each other, in used", []api.Arc{arc(0, 1, 3), arc(1, 0, 4)}, []int64{3, 1}, "+--", 3, 2, false},
		{"against each other, both full", []api.Arc{arc(0, 1, 3), arc(1, 0, 4)}, []int64{3, 4}, "+--", 3, -1, false},
		{"an arc into S alone", []api.Arc{arc(1, 0, 4)}, []int64{4}, "+--", 0, -4, false},
		{"an arc into S alone, empty", []api.Arc{arc(1, 0, 4)}, []int64{0}, "+--", 0, 0, true},
		{"an arc out of T", []api.Arc{arc(2, 1, 4)}, []int64{1}, "++-", 0, -1, false},
		{"an arc out of T, empty", []api.Arc{arc(2, 1, 4)}, []int64{0}, "++-", 0, 0, true},
		{"out full, in empty, within and without any", []api.Arc{arc(0, 2, 2), arc(2, 0, 3), arc(0, 1, 4), arc(1, 0, 5)}, []int64{2, 0, 1, 2}, "++-", 2, 2, true},
	} {
		t.Run(x.name, func(t *testing.T) {
			n := api.Net{N: 3, S: 0, T: 2, Arcs: x.arcs}
			checkCap(t, n, side(x.side), x.cap, api.OK)
			checkAcross(t, n, x.f, side(x.side), x.want, api.OK, x.tight)
		})
	}
}

// P4.1: numbers that are not within the capacities are ErrFlow, also where they do not cross the cut; Cap does not ask for them.
func TestWrongNumbers(t *testing.T) {
	for name, f := range wrongNumbers() {
		t.Run(name, func(t *testing.T) {
			checkAcross(t, tangle(), f, side("----+"), 0, api.ErrFlow, false)
			checkAcross(t, tangle(), f, side("+-+++"), 0, api.ErrFlow, false)
			checkAcross(t, tangle(), f, side("----+-"), 0, api.ErrArg, false)
			checkAcross(t, tangle(), f, side("-+--+"), 0, api.ErrArg, false)
		})
	}
}

// wrongNumbers are numbers for the tangle that are not within its capacities.
func wrongNumbers() map[string][]int64 {
	return map[string][]int64{
		"nil":                          nil,
		"one too few":                  {2, 0, 0, 1, 0, 1, 2, 0, 0},
		"one too many":                 {2, 0, 0, 1, 0, 1, 2, 0, 0, 1, 0},
		"the first above its capacity": {3, 0, 0, 1, 0, 1, 2, 0, 0, 1},
		"the last above its capacity":  {2, 0, 0, 1, 0, 1, 2, 0, 0, 2},
		"one where there is none":      {2, 0, 0, 1, 1, 1, 2, 0, 0, 1},
		"a self-loop above its own":    {2, 2, 0, 1, 0, 1, 2, 0, 0, 1},
		"the first negative":           {-1, 0, 0, 1, 0, 1, 2, 0, 0, 1},
		"the last negative":            {2, 0, 0, 1, 0, 1, 2, 0, 0, -1},
		"a negative self-loop":         {2, 0, 0, 1, 0, 1, 2, -1, 0, 1},
		"the greatest number":          {2, 0, 0, 1, 0, 1, 2, 0, math.MaxInt64, 1},
		"the least number":             {2, 0, math.MinInt64, 1, 0, 1, 2, 0, 0, 1},
	}
}

// P4.1: capacities with a sum of MaxSum, the most vertices and arcs.
func TestLimits(t *testing.T) {
	great := api.Net{N: 2, S: 0, T: 1, Arcs: []api.Arc{arc(0, 1, 1<<62), arc(1, 0, 0)}}
	checkCap(t, great, side("+-"), 1<<62, api.OK)
	checkAcross(t, great, []int64{1 << 62, 0}, side("+-"), 1<<62, api.OK, true)
	checkAcross(t, great, []int64{1<<62 - 1, 0}, side("+-"), 1<<62-1, api.OK, false)
	great.S, great.T = 1, 0
	checkCap(t, great, side("-+"), 0, api.OK)
	checkAcross(t, great, []int64{1 << 62, 0}, side("-+"), -1<<62, api.OK, false)
	checkCap(t, great, side("+-"), 0, api.ErrArg)

	most := api.Net{N: 1 << 12, S: 9, T: 1<<12 - 1, Arcs: make([]api.Arc, 1<<14)}
	f, s := make([]int64, 1<<14), make([]bool, 1<<12)
	for i := range most.Arcs {
		most.Arcs[i] = arc(i*i%4093, i*37%4096, int64(i%5)<<40)
		f[i] = most.Arcs[i].Cap * int64(i%3) / 2
		s[i%4095] = i%7 < 3
	}
	s[9] = true
	checkByDefinition(t, most, f, s)
	f[1<<14-1] = most.Arcs[1<<14-1].Cap + 1
	checkByDefinition(t, most, f, s)
	checkByDefinition(t, most, f, append(s, false))
	checkCap(t, api.Net{N: 2, S: 1, T: 0, Arcs: slices.Repeat([]api.Arc{arc(1, 0, 1<<48)}, 1<<14)}, side("-+"), 1<<62, api.OK)
}

// P4.1: all sides of all small networks, with all numbers up to one beyond the capacities, are what they are by definition; so are sides and numbers of other lengths.
func TestAllSmallNets(t *testing.T) {
	tight, cuts := 0, 0
	smallNets(func(n api.Net) {
		allNumbers(n, 1, func(f []int64) {
			for _, text := range []string{"-+-", "-++", "++-", "--+", "-+"} {
				s := side(text)
				checkByDefinition(t, n, f, s)
				if cut.Tight(n, f, s) {
					tight++
				} else if cut.Right(n, s) {
					cuts++
				}
			}
			if t.Failed() {
				t.FailNow()
			}
		})
		for _, f := range [][]int64{make([]int64, len(n.Arcs)), make([]int64, len(n.Arcs)+1), nil} {
			for length := range 5 {
				allSides(length, func(s []bool) { checkByDefinition(t, n, f, s) })
			}
		}
	})
	if tight == 0 || cuts == 0 {
		t.Errorf("%d cuts are tight, %d are not", tight, cuts)
	}
}

// wrongNets are networks that are not valid, each for one reason or several; the side of S alone would be a cut of most of them.
func wrongNets() map[string]api.Net {
	nets := map[string]api.Net{}
	for name, change := range map[string]func(n *api.Net){
		"zero":               func(n *api.Net) { *n = api.Net{} },
		"one vertex":         func(n *api.Net) { *n = api.Net{N: 1} },
		"a negative N":       func(n *api.Net) { n.N = -1 },
		"too many vertices":  func(n *api.Net) { n.N = 1<<12 + 1 },
		"the greatest N":     func(n *api.Net) { n.N = math.MaxInt },
		"too many arcs":      func(n *api.Net) { n.Arcs = make([]api.Arc, 1<<14+1) },
		"S is T":             func(n *api.Net) { n.S = n.T },
		"S is no vertex":     func(n *api.Net) { n.S = 4 },
		"T is no vertex":     func(n *api.Net) { n.T = -1 },
		"an arc from beyond": func(n *api.Net) { n.Arcs[4].From = 4 },
		"an arc to beyond":   func(n *api.Net) { n.Arcs[0].To = -1 },
		"a negative cap":     func(n *api.Net) { n.Arcs[4].Cap = -1 },
		"a sum above MaxSum": func(n *api.Net) { n.Arcs[0].Cap = 1 << 62 },
		"several errors":     func(n *api.Net) { n.S, n.Arcs[0].To, n.Arcs[1].Cap = 9, 9, -1 },
	} {
		n := example()
		change(&n)
		nets[name] = n
	}
	return nets
}

// P4.1, P4.2, R1, R2: a network that is not valid has no cuts, and no numbers are within its capacities.
func TestWrongNets(t *testing.T) {
	for name, n := range wrongNets() {
		t.Run(name, func(t *testing.T) {
			for _, s := range [][]bool{nil, side("+"), side("+---"), side("+++-"), side("----"), side("+" + strings.Repeat("-", 1<<12))} {
				checkCap(t, n, s, 0, api.ErrArg)
				for _, f := range [][]int64{nil, {3, 4, 3, 4, 0}, make([]int64, len(n.Arcs)), {-1, 4, 3, 4, 0}} {
					checkAcross(t, n, f, s, 0, api.ErrArg, false)
					checkReach(t, n, f, nil, nil, api.ErrFlow)
				}
			}
		})
	}
}
