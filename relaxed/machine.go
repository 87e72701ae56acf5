package relaxed

import (
	"slices"

	"acequia/api"
	"acequia/csr"
)

// machine is a state, and what can be asked of the moves of each kind there.
type machine struct {
	c      api.Csr
	p      api.Pre
	checks map[uint8]func(e api.Event) api.Errno
}

// at returns a machine whose state is p.
func at(c api.Csr, p api.Pre) *machine {
	m := &machine{c: c, p: p}
	m.checks = map[uint8]func(e api.Event) api.Errno{api.EvPush: m.checkPush, api.EvLift: m.checkLift}
	return m
}

// check returns OK if e is allowed. It looks at no more than e concerns, so that a long run takes no longer than its moves.
func (m *machine) check(e api.Event) api.Errno {
	check, ok := m.checks[e.What]
	if !ok || !fit(m.c, m.p) || !m.moves(e.U) {
		return api.ErrArg
	}
	return check(e)
}

// moves reports whether u is a vertex that may be pushed from, and lifted.
func (m *machine) moves(u int) bool {
	return isIndex(u, m.c.N) && u != m.c.S && u != m.c.T
}

func (m *machine) checkPush(e api.Event) api.Errno {
	u, _, ok := ends(m.c, e.Arc)
	if !ok || u != e.U {
		return api.ErrArg
	}
	if e.D < 1 || e.D > m.most(e) || e.H != m.p.H[u] || e.H <= e.Low {
		return api.ErrPush
	}
	return api.OK
}

func (m *machine) checkLift(e api.Event) api.Errno {
	if e.H <= m.p.H[e.U] || e.H > 2*m.c.N {
		return api.ErrPush
	}
	return api.OK
}

// most returns how much the push e could push.
func (m *machine) most(e api.Event) int64 {
	return min(m.p.Ex[e.U], m.p.Res[e.Arc])
}

// apply changes the state by e, which must be allowed.
func (m *machine) apply(e api.Event) {
	if e.What == api.EvLift {
		m.p.H[e.U] = e.H
		return
	}
	m.p.Res[e.Arc] -= e.D
	m.p.Res[m.c.Rev[e.Arc]] += e.D
	m.p.Ex[e.U] -= e.D
	m.p.Ex[m.c.Head[e.Arc]] += e.D
}

// strictPush reports whether the push e, which must be allowed, is strict.
func (m *machine) strictPush(e api.Event) bool {
	return m.p.H[m.c.Head[e.Arc]] == e.H-1 && e.D == m.most(e)
}

// strictLift reports whether the lift e, which must be allowed, is strict.
func (m *machine) strictLift(e api.Event) bool {
	low, ok := m.lowest(e.U)
	// That low is not less than the height of U need not be asked: e raises U, so that a low one cannot have H just above it.
	return ok && m.p.Ex[e.U] > 0 && e.H == low+1
}

// lowest returns the least height of the ends of the residual arcs of u that are not used up; false if all are.
func (m *machine) lowest(u int) (int, bool) {
	low, found := 0, false
	// A caller's own rows may begin and end anywhere.
	for a := max(m.c.First[u], 0); a < min(m.c.First[u+1], csr.Len(m.c)); a++ {
		if _, v, ok := ends(m.c, a); ok && m.p.Res[a] > 0 && (!found || m.p.H[v] < low) {
			low, found = m.p.H[v], true
		}
	}
	return low, found
}

// twin returns p in memory of its own.
func twin(p api.Pre) api.Pre {
	return api.Pre{Res: slices.Clone(p.Res), Ex: slices.Clone(p.Ex), H: slices.Clone(p.H)}
}
