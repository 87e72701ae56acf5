package flow_test

import (
	"fmt"
	"math"
	"slices"
	"testing"

	"acequia/api"
	"acequia/flow"
)

// arc is short for the literals below.
func arc(from, to int, cap int64) api.Arc { return api.Arc{From: from, To: to, Cap: cap} }

// example is the network of the examples of chapters 1 and 3.
func example() api.Net {
	return api.Net{N: 4, S: 0, T: 3, Arcs: []api.Arc{arc(0, 1, 5), arc(0, 2, 4), arc(1, 3, 3), arc(2, 3, 6), arc(1, 2, 2)}}
}

// mixed has self-loops (one at S, one at T), parallel arcs, arcs in both directions, one of no capacity, one out of T and one into S, and a vertex (3) without arcs.
func mixed() api.Net {
	return api.Net{N: 5, S: 4, T: 1, Arcs: []api.Arc{
		arc(4, 0, 3), arc(4, 4, 8), arc(0, 4, 2), arc(4, 0, 1), arc(0, 1, 4), arc(1, 2, 0), arc(2, 1, 5), arc(1, 1, 1), arc(1, 0, 6),
	}}
}

// large has as many vertices and arcs as there may be, with ends and capacities of all kinds.
func large() api.Net {
	n := api.Net{N: 1 << 12, S: 1<<12 - 1, T: 7, Arcs: make([]api.Arc, 1<<14)}
	for i := range n.Arcs {
		n.Arcs[i] = arc(i*i%4093, i*37%4096, int64(i%5)<<40)
	}
	return n
}

// brief is the beginning of what x looks like, as the largest networks would fill pages.
func brief(x any) string {
	return fmt.Sprintf("%.200s", fmt.Sprint(x))
}

// smallNets calls f with networks of three vertices with up to three arcs of small capacities, self-loops and parallel arcs among them.
func smallNets(f func(n api.Net)) {
	var arcs, few []api.Arc
	for from := range 3 {
		for to := range 3 {
			arcs = append(arcs, arc(from, to, 0), arc(from, to, 2))
			few = append(few, arc(from, to, 1))
		}
	}
	n := api.Net{N: 3, S: 1, T: 0}
	f(n)
	for _, a := range arcs {
		n.Arcs = []api.Arc{a}
		f(n)
		for _, b := range arcs {
			n.Arcs = []api.Arc{a, b}
			f(n)
			for _, c := range few {
				n.Arcs = []api.Arc{a, b, c}
				f(n)
			}
		}
	}
}

// lists calls f with all lists of so many numbers from low to high.
func lists(length int, low, high int64, f func(list []int64)) {
	list := slices.Repeat([]int64{low}, length)
	for {
		f(list)
		at := 0
		for at < length && list[at] == high {
			list[at] = low
			at++
		}
		if at == length {
			return
		}
		list[at]++
	}
}

// what is all that P3.1 says of numbers on the arcs of a network.
type what struct {
	within, pre, right bool
	excess             []int64
	value              int64
}

// wantWhat is the chapter's definitions, written anew for valid networks: each vertex asks all arcs.
func wantWhat(n api.Net, f []int64) what {
	if len(f) != len(n.Arcs) {
		return what{}
	}
	for i, x := range f {
		if x < 0 || x > n.Arcs[i].Cap {
			return what{}
		}
	}
	w := what{within: true, pre: true, right: true}
	for v := range n.N {
		in, out := int64(0), int64(0)
		for i, a := range n.Arcs {
			if a.To == v {
				in += f[i]
			}
			if a.From == v {
				out += f[i]
			}
		}
		w.excess = append(w.excess, in-out)
		w.pre = w.pre && (v == n.S || in >= out)
		w.right = w.right && (v == n.S || v == n.T || in == out)
	}
	if w.right {
		w.value = w.excess[n.T]
	}
	return w
}

// check compares all that P3.1 lists to what is wanted.
func check(t *testing.T, n api.Net, f []int64, want what) {
	t.Helper()
	if got := flow.Within(n, f); got != want.within {
		t.Errorf("Within(%s, %s) is %t", brief(n), brief(f), got)
	}
	if got := flow.Pre(n, f); got != want.pre {
		t.Errorf("Pre(%s, %s) is %t", brief(n), brief(f), got)
	}
	if got := flow.Right(n, f); got != want.right {
		t.Errorf("Right(%s, %s) is %t", brief(n), brief(f), got)
	}
	got, err := flow.Excess(n, f)
	if !slices.Equal(got, want.excess) || err != errFlow(!want.within) {
		t.Errorf("Excess(%s, %s) is %s, %d, want %s", brief(n), brief(f), brief(got), err, brief(want.excess))
	}
	value, err := flow.Value(n, f)
	if value != want.value || err != errFlow(!want.right) {
		t.Errorf("Value(%s, %s) is %d, %d, want %d", brief(n), brief(f), value, err, want.value)
	}
}

func errFlow(wrong bool) api.Errno {
	if wrong {
		return api.ErrFlow
	}
	return api.OK
}

// P3.1: the chapter's examples.
func TestExamples(t *testing.T) {
	n := example()
	check(t, n, []int64{3, 4, 3, 4, 0}, what{true, true, true, []int64{-7, 0, 0, 7}, 7})
	check(t, n, []int64{5, 4, 3, 4, 0}, what{true, true, false, []int64{-9, 2, 0, 7}, 0})
	check(t, n, []int64{5, 4, 3, 6, 2}, what{true, true, true, []int64{-9, 0, 0, 9}, 9})
}

// P3.1: numbers on the arcs of the example that are flows, preflows, within the capacities alone, or none of these.
func TestKindsOfNumbers(t *testing.T) {
	outside := what{}
	for _, x := range []struct {
		name string
		f    []int64
		want what
	}{
		{"nothing flows", []int64{0, 0, 0, 0, 0}, what{true, true, true, make([]int64, 4), 0}},
		{"all arcs full", []int64{5, 4, 3, 6, 2}, what{true, true, true, []int64{-9, 0, 0, 9}, 9}},
		{"a preflow with two excesses", []int64{5, 4, 0, 0, 2}, what{true, true, false, []int64{-9, 3, 6, 0}, 0}},
		{"a deficit at the first vertex", []int64{2, 4, 3, 4, 0}, what{true, false, false, []int64{-6, -1, 0, 7}, 0}},
		{"a deficit at the last vertex that may have none", []int64{3, 4, 3, 5, 0}, what{true, false, false, []int64{-7, 0, -1, 8}, 0}},
		{"a deficit and an excess", []int64{3, 4, 3, 6, 0}, what{true, false, false, []int64{-7, 0, -2, 9}, 0}},
		{"a number too few", []int64{3, 4, 3, 4}, outside},
		{"a number too many", []int64{3, 4, 3, 4, 0, 0}, outside},
		{"no numbers", nil, outside},
		{"the first one above its capacity", []int64{6, 4, 3, 4, 0}, outside},
		{"the last one above its capacity", []int64{3, 4, 3, 4, 3}, outside},
		{"the first one negative", []int64{-1, 4, 3, 4, 0}, outside},
		{"the last one negative", []int64{3, 4, 3, 4, -1}, outside},
		{"the greatest number", []int64{3, 4, 3, 4, math.MaxInt64}, outside},
		{"the least number", []int64{3, 4, math.MinInt64, 4, 0}, outside},
		{"a flow but for a capacity", []int64{6, 4, 3, 7, 3}, outside},
		{"a flow but for a sign", []int64{1, 4, 3, 2, -2}, outside},
	} {
		t.Run(x.name, func(t *testing.T) { check(t, example(), x.f, x.want) })
	}
}

// P3.1: self-loops, parallel arcs, arcs of no capacity, arcs out of T and into S.
func TestKindsOfArcs(t *testing.T) {
	for _, x := range []struct {
		name string
		f    []int64
		want what
	}{
		{"parallel arcs", []int64{3, 0, 0, 1, 4, 0, 0, 0, 0}, what{true, true, true, []int64{0, 4, 0, 0, -4}, 4}},
		{"self-loops add nothing", []int64{3, 8, 0, 1, 4, 0, 0, 1, 0}, what{true, true, true, []int64{0, 4, 0, 0, -4}, 4}},
		{"a self-loop above its capacity", []int64{3, 9, 0, 1, 4, 0, 0, 1, 0}, what{}},
		{"a negative self-loop", []int64{3, 0, 0, 1, 4, 0, 0, -1, 0}, what{}},
		{"an arc of no capacity", []int64{3, 0, 0, 1, 4, 1, 1, 0, 0}, what{}},
		{"both directions", []int64{3, 0, 2, 1, 2, 0, 0, 0, 0}, what{true, true, true, []int64{0, 2, 0, 0, -2}, 2}},
		{"a negative value: a flow, but no preflow", []int64{0, 0, 2, 0, 0, 0, 0, 0, 2}, what{true, false, true, []int64{0, -2, 0, 0, 2}, -2}},
		{"a circle through T", []int64{0, 0, 0, 0, 4, 0, 0, 0, 4}, what{true, true, true, make([]int64, 5), 0}},
		{"into S alone: a deficit where it comes from", []int64{0, 0, 2, 0, 0, 0, 0, 0, 0}, what{true, false, false, []int64{-2, 0, 0, 0, 2}, 0}},
	} {
		t.Run(x.name, func(t *testing.T) { check(t, mixed(), x.f, x.want) })
	}
}

// P3.1: the greatest capacities, networks without arcs, and as many arcs as there may be.
func TestLimits(t *testing.T) {
	great := api.Net{N: 2, S: 0, T: 1, Arcs: []api.Arc{arc(0, 1, 1<<62)}}
	check(t, great, []int64{1 << 62}, what{true, true, true, []int64{-1 << 62, 1 << 62}, 1 << 62})
	check(t, great, []int64{1<<62 + 1}, what{})
	great.S, great.T = 1, 0
	check(t, great, []int64{1 << 62}, what{true, false, true, []int64{-1 << 62, 1 << 62}, -1 << 62})
	check(t, api.Net{N: 2, S: 0, T: 1}, nil, what{true, true, true, make([]int64, 2), 0})
	check(t, api.Net{N: 2, S: 0, T: 1, Arcs: []api.Arc{}}, []int64{}, what{true, true, true, make([]int64, 2), 0})
	check(t, api.Net{N: 2, S: 0, T: 1}, []int64{0}, what{})
	check(t, api.Net{N: 1 << 12, S: 9, T: 1<<12 - 1}, nil, what{true, true, true, make([]int64, 1<<12), 0})
	many := api.Net{N: 2, S: 0, T: 1, Arcs: slices.Repeat([]api.Arc{arc(0, 1, 1<<48)}, 1<<14)}
	check(t, many, slices.Repeat([]int64{1 << 48}, 1<<14), what{true, true, true, []int64{-1 << 62, 1 << 62}, 1 << 62})
}

// P3.1: the excesses of a large network, by sums over what is sent from and to each vertex.
func TestExcessOfManyArcs(t *testing.T) {
	n := large()
	f, want := make([]int64, 1<<14), make([]int64, 1<<12)
	for i, a := range n.Arcs {
		f[i] = a.Cap * int64(i%3) / 2
		want[a.From] -= f[i]
		want[a.To] += f[i]
	}
	if got, err := flow.Excess(n, f); err != api.OK || !slices.Equal(got, want) {
		t.Errorf("Excess is not what it is by definition (error %d)", err)
	}
	f[1<<14-1] = n.Arcs[1<<14-1].Cap + 1
	if got, err := flow.Excess(n, f); err != api.ErrFlow || len(got) > 0 || flow.Within(n, f) {
		t.Errorf("the last number is too great: the error is %d", err)
	}
}

// P3.1: all numbers from -1 to 3 on all small networks are what they are by definition.
func TestAllSmallNets(t *testing.T) {
	var all, flows, pres, both int
	smallNets(func(n api.Net) {
		lists(len(n.Arcs), -1, 3, func(f []int64) {
			want := wantWhat(n, f)
			check(t, n, f, want)
			if t.Failed() {
				t.FailNow()
			}
			all++
			if want.right {
				flows++
			}
			if want.pre {
				pres++
			}
			if want.right && want.pre {
				both++
			}
		})
	})
	if flows == 0 || flows == both || pres == both || flows == all {
		t.Errorf("of %d lists %d are flows, %d preflows, %d both", all, flows, pres, both)
	}
}

// wrongNets are networks that are not valid, each for one reason or several.
func wrongNets() map[string]api.Net {
	nets := map[string]api.Net{}
	for name, change := range map[string]func(n *api.Net){
		"zero":               func(n *api.Net) { *n = api.Net{} },
		"one vertex":         func(n *api.Net) { *n = api.Net{N: 1} },
		"a negative N":       func(n *api.Net) { n.N = -1 },
		"too many vertices":  func(n *api.Net) { n.N = 1<<12 + 1 },
		"the greatest N":     func(n *api.Net) { n.N = math.MaxInt },
		"too many arcs":      func(n *api.Net) { n.Arcs = slices.Repeat([]api.Arc{arc(0, 1, 5)}, 1<<14+1) },
		"S is T":             func(n *api.Net) { n.S = n.T },
		"S is no vertex":     func(n *api.Net) { n.S = 4 },
		"T is no vertex":     func(n *api.Net) { n.T = -1 },
		"an arc from beyond": func(n *api.Net) { n.Arcs[4].From = 4 },
		"an arc to beyond":   func(n *api.Net) { n.Arcs[0].To = -1 },
		"a negative cap":     func(n *api.Net) { n.Arcs[4].Cap = -1 },
		"a sum above MaxSum": func(n *api.Net) { n.Arcs[0].Cap = 1 << 62 },
		"several errors":     func(n *api.Net) { n.S, n.Arcs[0].To, n.Arcs[1].Cap = 9, 9, -1 },
	} {
		n := example()
		change(&n)
		nets[name] = n
	}
	return nets
}

// P3.1, R1, R2: for networks that are not valid the functions return false, or ErrFlow and nothing else.
func TestWrongNets(t *testing.T) {
	for name, n := range wrongNets() {
		t.Run(name, func(t *testing.T) {
			for _, f := range [][]int64{nil, {}, {0}, {3, 4, 3, 4, 0}, make([]int64, len(n.Arcs)), {-1, 4, 3, 4, 0}} {
				check(t, n, f, what{})
				checkRoom(t, n, f, nil, 0, api.ErrFlow)
				checkSend(t, n, f, nil, 0, nil, api.ErrFlow)
			}
		})
	}
}
