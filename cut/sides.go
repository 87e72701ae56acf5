package cut

// And returns the side of all vertices that are in both sides, as long as the longer one.
func And(a, b []bool) []bool {
	return merged(a, b, func(inA, inB bool) bool { return inA && inB })
}

// Or returns the side of all vertices that are in at least one of the sides, as long as the longer one.
func Or(a, b []bool) []bool {
	return merged(a, b, func(inA, inB bool) bool { return inA || inB })
}

// merged returns the side of all vertices of which both sides together say that they are in it.
func merged(a, b []bool, in func(inA, inB bool) bool) []bool {
	side := make([]bool, max(len(a), len(b)))
	for v := range side {
		side[v] = in(has(a, v), has(b, v))
	}
	return side
}

// has reports whether v is in a side; beyond its end nothing is.
func has(s []bool, v int) bool {
	return v < len(s) && s[v]
}
