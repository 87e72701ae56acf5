package cut_test

import (
	"slices"
	"strings"
	"testing"

	"acequia/cut"
)

func checkSides(t *testing.T, a, b []bool, and, or []bool) {
	t.Helper()
	if got := cut.And(a, b); !slices.Equal(got, and) {
		t.Errorf("And(%s, %s) is %s, want %s", brief(a), brief(b), brief(got), brief(and))
	}
	if got := cut.Or(a, b); !slices.Equal(got, or) {
		t.Errorf("Or(%s, %s) is %s, want %s", brief(a), brief(b), brief(got), brief(or))
	}
}

// P4.3: sides of the same length, of different ones, and of none at all.
func TestAndOr(t *testing.T) {
	for _, x := range []struct{ a, b, and, or string }{
		{"", "", "", ""},
		{"", "+", "-", "+"},
		{"", "-", "-", "-"},
		{"", "+-+", "---", "+-+"},
		{"+", "+", "+", "+"},
		{"+", "-", "-", "+"},
		{"-", "-", "-", "-"},
		{"++--", "+-+-", "+---", "+++-"},
		{"++++", "----", "----", "++++"},
		{"+", "++", "+-", "++"},
		{"++--", "+", "+---", "++--"},
		{"+-", "--+-+", "-----", "+-+-+"},
		{"-++", "++---", "-+---", "+++--"},
		{strings.Repeat("+", 1<<13), "-+", "-+" + strings.Repeat("-", 1<<13-2), strings.Repeat("+", 1<<13)},
	} {
		checkSides(t, side(x.a), side(x.b), side(x.and), side(x.or))
		checkSides(t, side(x.b), side(x.a), side(x.and), side(x.or))
	}
	checkSides(t, nil, nil, nil, nil)
	checkSides(t, nil, []bool{}, nil, nil)
	checkSides(t, nil, side("+-"), side("--"), side("+-"))
	checkSides(t, side("+-"), nil, side("--"), side("+-"))
}

// in reports whether v is in a side, which has an end.
func in(s []bool, v int) bool {
	return v < len(s) && s[v]
}

// P4.3: all sides of up to five vertices, vertex by vertex.
func TestAllSides(t *testing.T) {
	for lengthA := range 6 {
		for lengthB := range 6 {
			allSides(lengthA, func(a []bool) {
				allSides(lengthB, func(b []bool) {
					var and, or []bool
					for v := 0; v < lengthA || v < lengthB; v++ {
						and, or = append(and, in(a, v) && in(b, v)), append(or, in(a, v) || in(b, v))
					}
					checkSides(t, a, b, and, or)
				})
			})
		}
	}
}
