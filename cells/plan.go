package cells

import "acequia/api"

// ends is how many cells of a deque are ahead of its slots: its top and its bottom.
const ends = 2

// Plan returns the layout for so many vertices, residual arcs and workers; ErrArg if one of these numbers is too small or too great.
func Plan(verts, arcs, workers int) (api.Layout, api.Errno) {
	if !within(verts, 0, api.MaxVerts) || !within(arcs, 0, 2*api.MaxArcs) || !within(workers, 1, api.MaxWorkers) {
		return api.Layout{}, api.ErrArg
	}
	l := api.Layout{Verts: verts, Arcs: arcs, Workers: workers, Room: room(verts)}
	take := func(n int) int {
		first := l.Size
		l.Size += n
		return first
	}
	l.Res = take(arcs)
	l.Ex = take(verts)
	l.H = take(verts)
	l.Flag = take(verts)
	l.Pending = take(1)
	l.Ask = take(1)
	l.Count = take(1)
	l.Sense = take(1)
	l.Deques = take(workers * (ends + l.Room))
	return l, api.OK
}

// Top returns the cell of the top of the worker w; 0 if l has no such worker.
func Top(l api.Layout, w int) int {
	if !hasWorker(l, w) {
		return 0
	}
	return deque(l, w)
}

// Bottom returns the cell of the bottom of the worker w; 0 if l has no such worker.
func Bottom(l api.Layout, w int) int {
	if !hasWorker(l, w) {
		return 0
	}
	return deque(l, w) + 1
}

// Slot returns the cell of the slot of the worker w with the number at modulo Room; 0 if l has no such worker or no room, or at is negative.
func Slot(l api.Layout, w int, at int64) int {
	// A caller's own layout may have no room to divide by.
	if !hasWorker(l, w) || l.Room < 1 || at < 0 {
		return 0
	}
	return deque(l, w) + ends + int(at%int64(l.Room))
}

// deque returns the first cell of the deque of the worker w.
func deque(l api.Layout, w int) int {
	return l.Deques + w*(ends+l.Room)
}

// hasWorker reports whether w is a worker of l.
func hasWorker(l api.Layout, w int) bool {
	return w >= 0 && w < l.Workers
}

// room returns the least power of two that is at least n, and at least 1.
func room(n int) int {
	r := 1
	for r < n {
		r *= 2
	}
	return r
}

// within reports whether n is from low to high.
func within(n, low, high int) bool {
	return low <= n && n <= high
}
