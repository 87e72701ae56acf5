package fifo

import (
	"slices"

	"acequia/api"
	"acequia/pre"
)

// run is a run on its way. It changes a state of its own, as a new one for each push and lift would take too long.
type run struct {
	c     api.Csr
	state api.Pre
	work  api.Work
	// queue has the active vertices, but for the one that is served: each at most once, so that no send has to wait.
	queue chan int
	// next has the residual arc of each vertex from which on one may be admissible. One ahead of it cannot become so till the vertex is lifted: what opens it is a push from above, and other vertices only rise.
	next []int
}

// start returns a run that is at the valid state p.
func start(c api.Csr, p api.Pre) *run {
	r := &run{c: c, state: pre.Copy(p), queue: make(chan int, c.N), next: slices.Clone(c.First)}
	for _, v := range pre.Active(c, p) {
		r.queue <- v
	}
	return r
}

// finish serves the first vertex of the queue until there is none.
func (r *run) finish() {
	for {
		select {
		case u := <-r.queue:
			r.serve(u)
		default:
			return
		}
	}
}

// serve pushes from u, and lifts it where no push is possible, until it has nothing more to give away.
func (r *run) serve(u int) {
	for r.state.Ex[u] > 0 {
		if a, ok := r.admissible(u); ok {
			r.push(u, a)
		} else {
			r.lift(u)
		}
	}
}

// admissible returns the first admissible residual arc of u; false if there is none.
func (r *run) admissible(u int) (int, bool) {
	for ; r.next[u] < r.c.First[u+1]; r.next[u]++ {
		a := r.next[u]
		if r.state.Res[a] > 0 && r.state.H[u] == r.state.H[r.c.Head[a]]+1 {
			return a, true
		}
	}
	return 0, false
}

// push pushes as much as possible along a, which begins at u, and puts the vertex where it ends into the queue if that has become active.
func (r *run) push(u, a int) {
	v, d := r.c.Head[a], min(r.state.Ex[u], r.state.Res[a])
	had := r.state.Ex[v]
	r.state.Res[a] -= d
	r.state.Res[r.c.Rev[a]] += d
	r.state.Ex[u] -= d
	r.state.Ex[v] += d
	r.work.Pushes++
	// One that had some excess is in the queue already.
	if had == 0 && v != r.c.S && v != r.c.T {
		r.queue <- v
	}
}

// lift sets u just above the lowest end of its open residual arcs. There is one: that along which its excess could go back.
func (r *run) lift(u int) {
	low := 2 * r.c.N // above all heights
	for a := r.c.First[u]; a < r.c.First[u+1]; a++ {
		if r.state.Res[a] > 0 {
			low = min(low, r.state.H[r.c.Head[a]])
		}
	}
	r.state.H[u] = low + 1
	r.next[u] = r.c.First[u]
	r.work.Lifts++
}
