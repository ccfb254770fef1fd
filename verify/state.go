package verify

import (
	"slices"

	"barbican/api"
	"barbican/scalar"
)

const (
	slotSize = 8
	slots    = api.StackSize / slotSize
)

// reference: one that is held, and the helper that acquired it.
type reference struct{ id, helper int }

// loop: what goes on in a callback of the helper loop: its turn, how many turns there are, at least and at most, what is called with what, and the references that were held.
type loop struct {
	turn        int
	least, most int
	fn          int
	arg         value
	held        []reference
}

// frame: a frame, at a slot (one that has called stays at its call).
type frame struct {
	at    int
	regs  [11]value
	stack [slots]value
	loop  *loop // of a callback's first frame
}

// state: what a machine may be in the middle of.
type state struct {
	frames []*frame
	refs   []reference // in the order in which they were acquired
	made   int         // how many references there were
}

// begin: a state with one frame, at a slot.
func begin(at int) *state {
	s := &state{}
	s.push(at)
	return s
}

// copy: a state of its own. (What a loop tells is never changed.)
func (s *state) copy() *state {
	t := &state{refs: slices.Clone(s.refs), made: s.made}
	for _, f := range s.frames {
		g := *f
		t.frames = append(t.frames, &g)
	}
	return t
}

func (s *state) top() *frame { return s.frames[len(s.frames)-1] }

// push: a new frame, of which nothing but r10 is written.
func (s *state) push(at int) *frame {
	f := &frame{at: at}
	for i := range f.regs {
		f.regs[i] = nothing{}
	}
	for i := range f.stack {
		f.stack[i] = nothing{}
	}
	f.regs[10] = stackPtr{len(s.frames), scalar.Const(0)}
	s.frames = append(s.frames, f)
	return f
}

// pop: the last frame ends with this result: what is left of it, and where its stack was pointed to nothing is.
func (s *state) pop(result value) value {
	last := len(s.frames) - 1
	s.frames = s.frames[:last]
	s.change(func(v value) value { return behind(v, last) })
	return behind(result, last)
}

// change: each value of all frames becomes what do makes of it.
func (s *state) change(do func(value) value) {
	for _, f := range s.frames {
		for i, v := range f.regs {
			f.regs[i] = do(v)
		}
		for i, v := range f.stack {
			f.stack[i] = do(v)
		}
	}
}

// acquire: a new reference.
func (s *state) acquire(helper int) int {
	s.made++
	s.refs = append(s.refs, reference{s.made, helper})
	return s.made
}

// release: a reference that is held is let go; what hung on it isn't good any more.
func (s *state) release(id int) {
	s.refs = slices.DeleteFunc(s.refs, func(r reference) bool { return r.id == id })
	s.change(func(v value) value { return without(v, id) })
}

// full: whether no reference is left.
func (s *state) full() bool { return len(s.refs) >= api.MaxRefs }

// finish: a call of the last frame ends with this result.
func (s *state) finish(result value) *state {
	f := s.top()
	f.regs[0] = result
	for i := 1; i <= 5; i++ {
		f.regs[i] = nothing{}
	}
	f.at++
	return s
}

// saved: the registers that a call leaves as they are.
const saved = 1<<10 - 1<<6

// covers: whether all that may come of t may come of s. Both are at the same slot; live are the registers that may be read from each slot on.
func (s *state) covers(t *state, live []uint16) bool {
	if len(s.frames) != len(t.frames) || len(s.refs) != len(t.refs) {
		return false
	}
	n := naming{s.refs, t.refs}
	for i, r := range s.refs {
		if t.refs[i].helper != r.helper {
			return false
		}
	}
	for i, f := range s.frames {
		g := t.frames[i]
		if f.at != g.at {
			return false
		}
		regs := live[f.at]
		if i < len(s.frames)-1 {
			regs = live[f.at+1] & saved
		}
		if !f.covers(g, regs, n) {
			return false
		}
	}
	return true
}

func (f *frame) covers(g *frame, regs uint16, n naming) bool {
	for i, v := range f.regs {
		if regs>>i&1 == 1 && !v.covers(g.regs[i], n) {
			return false
		}
	}
	for i, v := range f.stack {
		if !v.covers(g.stack[i], n) {
			return false
		}
	}
	if f.loop == nil || g.loop == nil {
		return f.loop == g.loop
	}
	return f.loop.covers(g.loop, n)
}

func (l *loop) covers(m *loop, n naming) bool {
	if l.turn != m.turn || l.fn != m.fn || l.least > m.least || l.most < m.most || len(l.held) != len(m.held) {
		return false
	}
	for i, r := range l.held {
		if !n.same(r.id, m.held[i].id) {
			return false
		}
	}
	return l.arg.covers(m.arg, n)
}
