package vm

import (
	"slices"

	"barbican/api"
	"barbican/op"
	"barbican/sock"
)

// trapped: what is raised, and caught where an invocation ends.
type trapped int

func raise(trap int) { panic(trapped(trap)) }

// must: raises a trap, if there is one.
func must(trap int) {
	if trap != api.TrapNone {
		raise(trap)
	}
}

// frame: one of an invocation.
type frame struct {
	id   int // of the memory
	at   int // the slot at which it goes on
	regs [11]api.Val
}

// run: an invocation.
type run struct {
	m       *Machine
	env     api.Env
	draws   int // how many draws, and sockets, are used up
	found   int
	prog    int
	at      int // the slot of the operation that is done
	fuel    int
	steps   int
	tails   int
	timer   bool
	frames  []*frame
	ledger  *sock.Ledger
	helpers helperTable
	tags    []*tagged      // by tag, from 1 on
	records map[int]record // by region
	deleted map[int]int    // the map of each region whose entry was deleted
	own     []int          // regions that end with the invocation
}

// record: one of a ring that is pending: which ring's, and the reference that has it; 0: a dynptr's.
type record struct {
	ring, ref int
}

func number(n uint64) api.Val { return api.Val{Kind: api.VNum, Num: n} }

// context: what r1 is at first.
func context() api.Val { return api.Val{Kind: api.VCtx} }

func memory(id int) api.Val { return api.Val{Kind: api.VMem, Id: id} }

func (m *Machine) newRun(prog int, e api.Env, fuel int) *run {
	m.mem.Set(m.ctx, 0, e.Ctx)
	return &run{
		m: m, env: e, prog: prog, fuel: fuel, ledger: sock.NewLedger(), helpers: helperFuncs(),
		records: map[int]record{}, deleted: map[int]int{},
	}
}

// start: an invocation of a program.
func (m *Machine) start(prog int, e api.Env, fuel int) *run {
	r := m.newRun(prog, e, fuel)
	r.push(0, context())
	return r
}

// startTimer: an invocation of a timer's callback: see P14.14.
func (m *Machine) startTimer(f api.Fired, i int, key []byte, e api.Env, fuel int) *run {
	r := m.newRun(f.Prog, e, fuel)
	r.timer = true
	id := m.mem.Add(key, false, 0)
	r.own = append(r.own, id)
	r.push(f.At, api.Val{Kind: api.VMap, Id: i}, memory(id), memory(f.Id))
	return r
}

// push: a new frame, which begins at at, with these in r1 and on.
func (r *run) push(at int, args ...api.Val) {
	f := &frame{id: r.m.mem.Frame(), at: at}
	copy(f.regs[1:], args)
	f.regs[10] = api.Val{Kind: api.VStack, Id: f.id}
	r.frames = append(r.frames, f)
}

// pop: takes the last frame away.
func (r *run) pop() {
	last := len(r.frames) - 1
	r.m.mem.Kill(r.frames[last].id)
	r.frames = r.frames[:last]
}

func (r *run) top() *frame { return r.frames[len(r.frames)-1] }

// outcome: runs to the end.
func (r *run) outcome() (o api.Outcome) {
	defer func() {
		if cause := recover(); cause != nil {
			t, ok := cause.(trapped)
			if !ok {
				panic(cause)
			}
			o.Trap = int(t)
		}
		o.Prog, o.At, o.Steps, o.Events = r.prog, r.at, r.steps, r.ledger.Events()
		r.letGo()
	}()
	v := r.until(1)
	if v.Kind != api.VNum {
		raise(api.TrapRet)
	}
	if len(r.ledger.Held()) > 0 {
		raise(api.TrapRef)
	}
	o.Ret = v.Num
	return o
}

// letGo: at the end of an invocation nothing of it is left over.
func (r *run) letGo() {
	for len(r.frames) > 0 {
		r.pop()
	}
	for _, id := range r.ledger.Held() {
		if helper, i, _ := r.ledger.What(id); helper == api.HSockLookup {
			r.m.socks.Drop(i)
		}
	}
	for id, x := range r.records {
		r.m.rings[x.ring].Discard(id)
	}
	for id := range r.deleted {
		r.m.mem.Kill(id)
	}
	for _, id := range r.own {
		r.m.mem.Kill(id)
	}
}

// until: goes on until the frame that is the depth-th leaves: its r0.
func (r *run) until(depth int) api.Val {
	for {
		f := r.top()
		r.at = f.at
		r.count(f)
		p := &r.m.progs[r.prog]
		x := p.insns[f.at]
		switch x.Op & 7 {
		case api.Ld:
			f.regs[x.Dst] = wideLoad(p, f.at)
			f.at += 2
		case api.Ldx:
			f.regs[x.Dst] = r.load(f.regs[x.Src], x)
			f.at++
		case api.St:
			r.store(f.regs[x.Dst], x, immediate(x))
			f.at++
		case api.Stx:
			r.store(f.regs[x.Dst], x, f.regs[x.Src])
			f.at++
		case api.Alu, api.Alu64:
			f.regs[x.Dst] = arithmetic(x, f.regs[x.Dst], operand(f, x))
			f.at++
		default:
			if x.Op != op.Exit {
				r.jump(f, p, x)
			} else if len(r.frames) == depth {
				return f.regs[0]
			} else {
				r.leave(f.regs[0])
			}
		}
	}
}

// count: a step, and who watches is told of it.
func (r *run) count(f *frame) {
	if r.steps >= r.fuel {
		raise(api.TrapFuel)
	}
	r.steps++
	if r.m.watch != nil {
		r.m.watch(api.Step{Prog: r.prog, At: f.at, Frames: len(r.frames), Regs: f.regs})
	}
}

// leave: the last frame ends, and the one that called it goes on, with the result.
func (r *run) leave(result api.Val) {
	r.pop()
	finish(r.top(), result)
}

// finish: what a call leaves of the registers of the frame that called.
func finish(f *frame, result api.Val) {
	f.regs[0] = result
	for i := 1; i <= 5; i++ {
		f.regs[i] = api.Val{}
	}
	f.at++
}

// enter: a frame more, for what is called at at.
func (r *run) enter(at int, args ...api.Val) {
	if len(r.frames) >= api.MaxFrames {
		raise(api.TrapDepth)
	}
	r.push(at, args...)
}

// callback: calls the function at at, which must leave as many references as there were: its result.
func (r *run) callback(at int, args ...api.Val) uint64 {
	held := r.ledger.Held()
	r.enter(at, args...)
	v := r.until(len(r.frames))
	if v.Kind != api.VNum {
		raise(api.TrapRet)
	}
	if !slices.Equal(held, r.ledger.Held()) {
		raise(api.TrapRef)
	}
	r.pop()
	return v.Num
}
