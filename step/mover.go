package step

import (
	"transputer/api"
	"transputer/types"
)

// The channels from and to the host.
const (
	fromHost = 0
	toHost   = 1
)

// component is a component with what it can do.
type component struct {
	acts    []act
	rebuilt rebuilder
}

// mover makes the moves of a state.
type mover struct {
	s          api.State
	components []component
	moves      []api.Move
}

func moverOf(s api.State) *mover {
	m := &mover{s: s}
	n := now{s.Store, s.Time}
	for p, rebuilt := range components(&s.Root) {
		m.components = append(m.components, component{n.acts(p), rebuilt})
	}
	return m
}

// act makes the moves that begin with an act of a component: an input waits for the move of an output.
func (m *mover) act(c component, a act) {
	switch {
	case a.kind == alone:
		m.move(api.MvTau, api.Event{}, m.after(c, a), a.puts...)
	case a.kind == output && a.c == toHost:
		m.communicate(m.after(c, a), a.c, a.x)
	case a.kind == output:
		m.meet(c, a)
	case a.c == fromHost && len(m.s.In) > 0:
		next := m.after(c, a)
		next.In = next.In[1:]
		m.communicate(next, a.c, m.s.In[0], a.to)
	}
}

// meet makes the moves of an output to a channel inside. A component that inputs offers no output, and is thus another one.
func (m *mover) meet(from component, out act) {
	for _, c := range m.components {
		for _, in := range c.acts {
			if in.kind != input || in.c != out.c || !types.Fits(in.item, out.x) {
				continue
			}
			next := m.after(from, out)
			next.Root = c.rebuilt(next.Root, in.becomes)
			m.communicate(next, out.c, out.x, in.to)
		}
	}
}

// after returns the state with what a component becomes; it shares memory with the state before.
func (m *mover) after(c component, a act) api.State {
	next := m.s
	next.Root = c.rebuilt(next.Root, a.becomes)
	return next
}

// communicate adds a move to next in which a value goes along a channel, and to some place if it is not for the host.
func (m *mover) communicate(next api.State, c int, x int32, to ...put) {
	for i := range to {
		to[i].x = x
	}
	m.move(api.MvComm, api.Event{C: c, V: x}, next, to...)
}

func (m *mover) tick() {
	next := m.s
	next.Time++
	m.move(api.MvTick, api.Event{}, next)
}

// move adds a move to a copy of next, in normal form and after these puts.
func (m *mover) move(k api.MoveKind, e api.Event, next api.State, puts ...put) {
	next.Root = normal(next.Root)
	next = copyOf(next)
	for _, p := range puts {
		next.Store[p.v][p.i] = p.x
	}
	m.moves = append(m.moves, api.Move{Kind: k, Event: e, Next: next})
}
