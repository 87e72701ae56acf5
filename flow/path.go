package flow

import "acequia/api"

// Room returns how much can be sent along a path; ErrFlow if f is not within the capacities, ErrArc if l is not a path.
func Room(n api.Net, f []int64, l []api.Hop) (int64, api.Errno) {
	if !Within(n, f) {
		return 0, api.ErrFlow
	}
	if !isPath(n, l) {
		return 0, api.ErrArc
	}
	return least(n, f, surplus(l)), api.OK
}

// Send returns a copy of f with d sent along a path; the errors of Room, and ErrArg if d is not from 0 to the room.
func Send(n api.Net, f []int64, l []api.Hop, d int64) ([]int64, api.Errno) {
	room, err := Room(n, f, l)
	if err != api.OK {
		return nil, err
	}
	if d < 0 || d > room {
		return nil, api.ErrArg
	}
	sent := make([]int64, len(f))
	copy(sent, f)
	for arc, times := range surplus(l) {
		sent[arc] += d * times
	}
	return sent, api.OK
}

// isPath reports whether each hop goes along an arc of a valid network, and begins where the one before it ends.
func isPath(n api.Net, l []api.Hop) bool {
	reached := 0
	for i, h := range l {
		if h.Arc < 0 || h.Arc >= len(n.Arcs) {
			return false
		}
		from, to := ends(n.Arcs[h.Arc], h.Back)
		if i > 0 && from != reached {
			return false
		}
		reached = to
	}
	return true
}

// ends returns where a hop along a begins, and where it ends.
func ends(a api.Arc, back bool) (int, int) {
	if back {
		return a.To, a.From
	}
	return a.From, a.To
}

// surplus returns, for each arc of the path, how many more hops go along it forward than backward; it is the difference alone that changes what the arc carries.
func surplus(l []api.Hop) map[int]int64 {
	times := make(map[int]int64)
	for _, h := range l {
		if h.Back {
			times[h.Arc]--
		} else {
			times[h.Arc]++
		}
	}
	return times
}

// least returns the greatest number that all arcs have room for. Being a minimum, it does not depend on the order in which the map is gone through.
func least(n api.Net, f []int64, times map[int]int64) int64 {
	room := int64(api.MaxSum)
	for arc, more := range times {
		switch {
		case more > 0:
			room = min(room, (n.Arcs[arc].Cap-f[arc])/more)
		case more < 0:
			room = min(room, f[arc]/-more)
		}
	}
	return room
}
