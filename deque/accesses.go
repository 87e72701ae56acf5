package deque

import (
	"acequia/api"
	"acequia/cells"
)

// machine is what all machines have: whose deque they are at work on, how far they are, and which bottom and top they go by.
type machine struct {
	layout api.Layout
	worker int
	// next is the number of the next access, from 1 on; 0 tells a machine that no function of this package has made.
	next        int
	done        bool
	bottom, top int64
}

// newMachine returns what a machine has at first.
func newMachine(l api.Layout, w int) machine {
	// Where there is no deque, there is no access to make.
	return machine{layout: l, worker: w, next: 1, done: !hasDeque(l, w)}
}

// hasDeque reports whether l has a deque for the worker w.
func hasDeque(l api.Layout, w int) bool {
	return w >= 0 && w < l.Workers && l.Room >= 1
}

// isUnderWay reports whether m has an access to make.
func (m *machine) isUnderWay() bool {
	return m.next > 0 && !m.done
}

// advance returns the number of the access that is to be made now, and counts it.
func (m *machine) advance() int {
	now := m.next
	m.next++
	return now
}

func (m *machine) topCell() int {
	return cells.Top(m.layout, m.worker)
}

func (m *machine) bottomCell() int {
	return cells.Bottom(m.layout, m.worker)
}

func (m *machine) slotCell(at int64) int {
	return cells.Slot(m.layout, m.worker, at)
}

func (p *Push) loadBottom(b *cells.Bank) {
	p.bottom = b.Load(p.bottomCell())
}

func (p *Push) loadTop(b *cells.Bank) {
	p.top = b.Load(p.topCell())
	p.done = p.bottom-p.top >= int64(p.layout.Room)
}

func (p *Push) storeNumber(b *cells.Bank) {
	b.Store(p.slotCell(p.bottom), p.number)
}

// storeBottom is what makes the number one of the contents.
func (p *Push) storeBottom(b *cells.Bank) {
	b.Store(p.bottomCell(), p.bottom+1)
	p.stored, p.done = true, true
}

func (p *Pop) loadBottom(b *cells.Bank) {
	p.bottom = b.Load(p.bottomCell()) - 1
}

// lowerBottom comes ahead of the load of the top, so that thieves leave the last number alone, or are seen.
func (p *Pop) lowerBottom(b *cells.Bank) {
	b.Store(p.bottomCell(), p.bottom)
}

func (p *Pop) loadTop(b *cells.Bank) {
	p.top = b.Load(p.topCell())
}

// loadNumber loads what is at the bottom, which is the owner's if the top is less; of a deque that is empty it puts the bottom back instead.
func (p *Pop) loadNumber(b *cells.Bank) {
	if p.top > p.bottom {
		p.raiseBottom(b)
		return
	}
	p.number = b.Load(p.slotCell(p.bottom))
	p.taken = p.top < p.bottom
	p.done = p.taken
}

// takeLast takes the only number as a thief would do, as one may be at it.
func (p *Pop) takeLast(b *cells.Bank) {
	p.taken = b.CAS(p.topCell(), p.top, p.top+1)
}

// raiseBottom puts the bottom back to where the top is, or will be.
func (p *Pop) raiseBottom(b *cells.Bank) {
	b.Store(p.bottomCell(), p.bottom+1)
	p.done = true
}

func (s *Steal) loadTop(b *cells.Bank) {
	s.top = b.Load(s.topCell())
}

func (s *Steal) loadBottom(b *cells.Bank) {
	s.bottom = b.Load(s.bottomCell())
	s.done = s.top >= s.bottom
}

func (s *Steal) loadNumber(b *cells.Bank) {
	s.number = b.Load(s.slotCell(s.top))
}

// takeFirst takes the number if the top is still what it was: nobody has taken it, nor stored another one in its slot.
func (s *Steal) takeFirst(b *cells.Bank) {
	s.taken = b.CAS(s.topCell(), s.top, s.top+1)
	s.lost, s.done = !s.taken, true
}
