package verify

import (
	"barbican/api"
	"barbican/flow"
	"barbican/insn"
	"barbican/live"
	"barbican/op"
	"barbican/proto"
	"barbican/scalar"
)

const kept = 16 // how many states are remembered at a slot

// remembered: a state all of whose ways were gone, and the steps of the longest one.
type remembered struct {
	state *state
	steps int
}

// entry: a timer's callback: the map whose timers it is called for, its slot.
type entry struct{ i, at int }

// walker: looks at one program.
type walker struct {
	maps    []api.MapDef
	l       []api.Insn
	live    []uint16
	joins   []bool // the slots at which states are remembered
	seen    map[int][]remembered
	entries []entry
	queued  map[entry]int
	protos  []api.Proto
	effects effectTable
	at      int // the slot that is looked at
	looked  int
}

func newWalker(maps []api.MapDef, l []api.Insn) *walker {
	w := &walker{maps: maps, l: l, seen: map[int][]remembered{}, queued: map[entry]int{}, protos: proto.All(), effects: effects()}
	w.live, _ = live.Live(l)
	w.joins = joins(l)
	return w
}

// joins: the slots to which several ways may come: targets of jumps, and what stands behind calls that may come back more than once.
func joins(l []api.Insn) []bool {
	is := make([]bool, len(l)+1)
	blocks, _ := flow.Blocks(l)
	for _, b := range blocks {
		is[b.From] = true
	}
	for at, x := range l {
		if x.Op == op.Call && (x.Src == op.CallsSub || x.Imm == api.HLoop) {
			is[at+1] = true
		}
	}
	return is
}

// refuse: the program isn't taken.
func (w *walker) refuse(why api.Errno) { panic(fault{why, w.at}) }

// all: the steps of the longest way of the program, and of its timers' callbacks; or the fault that was met.
func (w *walker) all() (bound int, f fault) {
	defer func() {
		if cause := recover(); cause != nil {
			met, ok := cause.(fault)
			if !ok {
				panic(cause)
			}
			bound, f = 0, met
		}
	}()
	s := begin(0)
	s.top().regs[1] = ctxPtr{scalar.Const(0)}
	bound = w.walk(s)
	for i := 0; i < len(w.entries); i++ {
		bound = max(bound, w.walk(w.callback(w.entries[i])))
	}
	return bound, fault{}
}

// callback: the state in which a timer's callback begins.
func (w *walker) callback(e entry) *state {
	s := begin(e.at)
	f := s.top()
	f.regs[1] = mapPtr{e.i}
	f.regs[2] = memPtr{origin: aFixed, size: w.maps[e.i].Key, off: scalar.Const(0)}
	f.regs[3] = w.valueOf(e.i)
	return s
}

// valueOf: a pointer to a value of the map i.
func (w *walker) valueOf(i int) value {
	def := w.maps[i]
	p := memPtr{origin: aValue, i: i, size: def.Value, off: scalar.Const(0)}
	if def.Timer {
		p.from = api.TimerSize
	}
	return p
}

// passed: a state that a way came through, and how many steps the way had then.
type passed struct {
	state *state
	steps int
}

// walk: goes all ways from s on: the steps of the longest one.
func (w *walker) walk(s *state) int {
	steps := 0
	var through []passed
	for {
		at := s.top().at
		if w.joins[at] {
			if rest, ok := w.known(s); ok {
				steps += rest
				break
			}
			through = append(through, passed{s.copy(), steps})
		}
		w.look(at)
		steps++
		next := w.step(s)
		if len(next) == 1 {
			s = next[0]
			continue
		}
		rest := 0
		for _, t := range next {
			rest = max(rest, w.walk(t))
		}
		steps += rest
		break
	}
	for _, p := range through {
		w.remember(p.state, steps-p.steps)
	}
	return steps
}

// look: counts that the slot at is looked at.
func (w *walker) look(at int) {
	w.at = at
	if w.looked >= api.MaxBudget {
		w.refuse(api.ErrVerifyBudget)
	}
	w.looked++
}

// known: the steps of the longest way from s on, if a state that covers s was looked at.
func (w *walker) known(s *state) (int, bool) {
	for _, r := range w.seen[s.top().at] {
		if r.state.covers(s, w.live) {
			return r.steps, true
		}
	}
	return 0, false
}

func (w *walker) remember(s *state, steps int) {
	at := s.top().at
	l := append(w.seen[at], remembered{s, steps})
	if len(l) > kept {
		l = l[1:]
	}
	w.seen[at] = l
}

// step: does the operation at which s is; the states that may come of it. (s is one of them, or no more.)
func (w *walker) step(s *state) []*state {
	f := s.top()
	x := w.l[f.at]
	d, by := f.regs[x.Dst], int(x.Off)
	switch x.Op & 7 {
	case api.Ld:
		f.regs[x.Dst] = w.wideLoad(f.at)
	case api.Ldx:
		f.regs[x.Dst] = w.load(s, f.regs[x.Src], by, op.Size(x))
	case api.St:
		w.store(s, d, by, op.Size(x), immediate(x))
	case api.Stx:
		w.store(s, d, by, op.Size(x), f.regs[x.Src])
	case api.Alu, api.Alu64:
		f.regs[x.Dst] = w.arithmetic(x, d, operand(f, x))
	default:
		return w.jump(s, x)
	}
	f.at += op.Width(x)
	return []*state{s}
}

func immediate(x api.Insn) value { return constant(uint64(int64(x.Imm))) }

// operand: the second one of an operation or a comparison.
func operand(f *frame, x api.Insn) value {
	if x.Op&op.ByRegister != 0 {
		return f.regs[x.Src]
	}
	return immediate(x)
}

func (w *walker) wideLoad(at int) value {
	x := w.l[at]
	switch x.Src {
	case op.LoadsMap:
		return mapPtr{int(x.Imm)}
	case op.LoadsFunction:
		return funcPtr{at + 1 + int(x.Imm)}
	}
	n, _ := insn.Wide(w.l, at)
	return constant(n)
}

// jump: jumps, comparisons, calls, exits.
func (w *walker) jump(s *state, x api.Insn) []*state {
	f := s.top()
	switch {
	case x.Op == op.Jump:
		f.at += 1 + int(x.Off)
		return []*state{s}
	case x.Op == op.Exit:
		return w.exit(s)
	case x.Op == op.Call && x.Src == op.CallsSub:
		return []*state{w.enter(s, f.at+1+int(x.Imm), f.regs[1:6])}
	case x.Op == op.Call:
		return w.help(s, int(x.Imm))
	}
	return w.branch(s, x)
}

// enter: a frame more, with these in r1 and on.
func (w *walker) enter(s *state, at int, args []value) *state {
	if len(s.frames) >= api.MaxFrames {
		w.refuse(api.ErrFlowDeep)
	}
	f := s.push(at)
	copy(f.regs[1:], args)
	return s
}

// exit: the last frame ends.
func (w *walker) exit(s *state) []*state {
	f := s.top()
	switch result := f.regs[0]; {
	case len(s.frames) == 1:
		w.end(result, s.refs, nil)
		return nil
	case f.loop != nil:
		return w.turned(s)
	default:
		return []*state{s.finish(s.pop(result))}
	}
}

// end: an invocation, or a callback, ends with this result and these references.
func (w *walker) end(result value, refs, held []reference) {
	if _, ok := result.(number); !ok {
		w.refuse(api.ErrVerifyRet)
	}
	if len(refs) != len(held) {
		w.refuse(api.ErrVerifyRef)
	}
	for i, r := range refs {
		if held[i] != r {
			w.refuse(api.ErrVerifyRef)
		}
	}
}

// branch: the ways that a comparison may go.
func (w *walker) branch(s *state, x api.Insn) []*state {
	f := s.top()
	d, o := f.regs[x.Dst], operand(f, x)
	if isNothing(d) || isNothing(o) {
		w.refuse(api.ErrVerifyReg)
	}
	code, wide := int(x.Op>>4), x.Op&7 == api.Jmp
	to, behind := f.at+1+int(x.Off), f.at+1
	a, ok := d.(number)
	b, also := o.(number)
	if !ok || !also {
		if !comparable0(x, also) {
			w.refuse(api.ErrVerifyPtr)
		}
		// A pointer isn't 0.
		f.at = behind
		if code == api.Jne {
			f.at = to
		}
		return []*state{s}
	}
	var next []*state
	for _, taken := range []bool{false, true} {
		left, right, may := scalar.Branch(code, wide, taken, a.n, b.n)
		if !may {
			continue
		}
		t := s.copy()
		g := t.top()
		g.at = behind
		if taken {
			g.at = to
		}
		narrow(g, x, left, right)
		next = append(next, t)
	}
	return next
}

// comparable0: whether x compares a pointer with 0, as it may be: the second operand is a number.
func comparable0(x api.Insn, withNumber bool) bool {
	code := x.Op >> 4
	return withNumber && x.Op&7 == api.Jmp && x.Op&op.ByRegister == 0 && x.Imm == 0 && (code == api.Jeq || code == api.Jne)
}

// narrow: what a comparison tells of the registers that it looked at.
func narrow(f *frame, x api.Insn, left, right api.Scalar) {
	if x.Op&op.ByRegister == 0 {
		f.regs[x.Dst] = number{left}
		return
	}
	// Of one register that is compared with itself the two sides tell of pairs that there aren't.
	if x.Dst != x.Src {
		f.regs[x.Dst], f.regs[x.Src] = number{left}, number{right}
	}
}
