package cut_test

import (
	"testing"

	"acequia/api"
	"acequia/cut"
	"acequia/flow"
)

// cutsOf lists all cuts of a small network.
func cutsOf(n api.Net) [][]bool {
	var cuts [][]bool
	allSides(n.N, func(s []bool) {
		if cut.Right(n, s) {
			cuts = append(cuts, s)
		}
	})
	return cuts
}

// within reports whether each vertex of a side is in another one, too.
func within(a, b []bool) bool {
	for v := range a {
		if a[v] && !b[v] {
			return false
		}
	}
	return true
}

// tried counts what the consequences have been tried with, so that no test passes for want of any.
type tried struct{ flows, greatest, tight, loose int }

// checkFlow checks what P4.4 says of a flow and all cuts: its value flows across each; it is the capacity of the tight ones, and less than that of the others.
func checkFlow(t *testing.T, n api.Net, f []int64, cuts [][]bool, seen *tried) {
	t.Helper()
	value, err := flow.Value(n, f)
	if err != api.OK {
		return
	}
	seen.flows++
	for _, s := range cuts {
		across, err := cut.Across(n, f, s)
		if across != value || err != api.OK {
			t.Fatalf("Across(%v, %v, %s) is %d, %d; the value is %d", n, f, plusMinus(s), across, err, value)
		}
		capacity, _ := cut.Cap(n, s)
		if tight := cut.Tight(n, f, s); value > capacity || tight != (value == capacity) {
			t.Fatalf("the value of %v in %v is %d, Cap of %s %d, Tight %t", f, n, value, plusMinus(s), capacity, tight)
		}
	}
}

// checkEnds checks what P4.4 says of From and To: cuts that are tight if S does not reach T, and between which all tight ones lie.
func checkEnds(t *testing.T, n api.Net, f []int64, cuts [][]bool, seen *tried) {
	t.Helper()
	from, err := cut.From(n, f)
	to, err2 := cut.To(n, f)
	if err != api.OK || err2 != api.OK || from[n.T] == to[n.S] {
		t.Fatalf("From and To of %v, %v are %s, %d, and %s, %d", n, f, plusMinus(from), err, plusMinus(to), err2)
	}
	closed := !from[n.T]
	if cut.Tight(n, f, from) != closed || cut.Tight(n, f, to) != closed || closed && !within(from, to) {
		t.Fatalf("From and To of %v, %v are %s and %s", n, f, plusMinus(from), plusMinus(to))
	}
	if closed {
		seen.greatest++
	}
	for _, s := range cuts {
		if !cut.Tight(n, f, s) {
			seen.loose++
			continue
		}
		seen.tight++
		if !closed || !within(from, s) || !within(s, to) {
			t.Fatalf("%s is tight for %v, %v; From is %s, To is %s", plusMinus(s), n, f, plusMinus(from), plusMinus(to))
		}
	}
}

// checkPairs checks what P4.4 says of two cuts: both And and Or of them are cuts, and together have no more capacity.
func checkPairs(t *testing.T, n api.Net, cuts [][]bool) {
	t.Helper()
	for _, a := range cuts {
		for _, b := range cuts {
			capA, _ := cut.Cap(n, a)
			capB, _ := cut.Cap(n, b)
			and, err := cut.Cap(n, cut.And(a, b))
			or, err2 := cut.Cap(n, cut.Or(a, b))
			if err != api.OK || err2 != api.OK || and+or > capA+capB {
				t.Fatalf("in %v the cuts %s, %s have %d, %d; And has %d, %d, Or has %d, %d", n, plusMinus(a), plusMinus(b), capA, capB, and, err, or, err2)
			}
		}
	}
}

// P4.4: all consequences, for all numbers within the capacities of small networks.
func TestConsequences(t *testing.T) {
	var seen tried
	check := func(n api.Net) {
		cuts := cutsOf(n)
		if want := 1 << (n.N - 2); len(cuts) != want {
			t.Fatalf("%v has %d cuts, not %d", n, len(cuts), want)
		}
		checkPairs(t, n, cuts)
		allNumbers(n, 0, func(f []int64) {
			checkFlow(t, n, f, cuts, &seen)
			checkEnds(t, n, f, cuts, &seen)
		})
	}
	smallNets(check)
	check(example())
	check(tangle())
	if seen.flows == 0 || seen.greatest == 0 || seen.tight == 0 || seen.loose == 0 {
		t.Errorf("not everything has been tried: %+v", seen)
	}
}
