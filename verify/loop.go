package verify

import (
	"slices"

	"barbican/api"
	"barbican/scalar"
)

// loop: the helper loop: it doesn't begin, or ends at once, or the first callback is entered.
func (w *walker) loop(s *state, a args) []*state {
	n := a.num(0)
	var next []*state
	if n.Umax > api.MaxLoop {
		next = append(next, s.copy().finish(either(errRange)))
	}
	if n.Umin > api.MaxLoop {
		return next
	}
	if n.Umin == 0 {
		next = append(next, s.copy().finish(constant(0)))
	}
	if n.Umax == 0 {
		return next
	}
	l := &loop{least: int(n.Umin), most: int(min(n.Umax, api.MaxLoop)), fn: a[1].(funcPtr).at, arg: a[2], held: slices.Clone(s.refs)}
	return append(next, w.enterTurn(s, l))
}

// enterTurn: the callback of a turn is entered.
func (w *walker) enterTurn(s *state, l *loop) *state {
	w.enter(s, l.fn, []value{constant(uint64(l.turn)), l.arg})
	s.top().loop = l
	return s
}

// turned: the callback of a turn ends: the loop goes on, or ends too.
func (w *walker) turned(s *state) []*state {
	l, result := s.top().loop, s.top().regs[0]
	w.end(result, s.refs, l.held)
	n := result.(number).n
	s.pop(result)
	zero := scalar.Const(0)
	_, _, mayGoOn := scalar.Branch(api.Jeq, true, true, n, zero)
	_, _, mayStop := scalar.Branch(api.Jne, true, true, n, zero)
	done := l.turn + 1
	var next []*state
	if mayStop || done >= l.least {
		next = append(next, s.copy().finish(constant(uint64(done))))
	}
	if mayGoOn && done < l.most {
		again := *l
		again.turn = done
		next = append(next, w.enterTurn(s, &again))
	}
	return next
}
