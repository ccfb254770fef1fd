package vm

import (
	"barbican/alu"
	"barbican/api"
	"barbican/op"
)

func immediate(x api.Insn) api.Val { return number(alu.Sign(x.Imm)) }

// operand: the second one of an operation or a comparison.
func operand(f *frame, x api.Insn) api.Val {
	if x.Op&op.ByRegister != 0 {
		return f.regs[x.Src]
	}
	return immediate(x)
}

func wideLoad(p *program, at int) api.Val {
	switch x := p.insns[at]; x.Src {
	case op.LoadsMap:
		return api.Val{Kind: api.VMap, Id: int(x.Imm)}
	case op.LoadsFunction:
		return api.Val{Kind: api.VFunc, Id: p.target[at]}
	}
	return number(p.wide[at])
}

// moved: the pointer p, moved by n: see P14.5.
func moved(p api.Val, n int64) api.Val {
	if n > api.MaxOff || n < -api.MaxOff {
		raise(api.TrapPtr)
	}
	p.Off += n
	if p.Off > api.MaxOff || p.Off < -api.MaxOff {
		raise(api.TrapPtr)
	}
	return p
}

// movable: whether p is a pointer that may be moved.
func movable(p api.Val) bool {
	return p.Kind == api.VStack || p.Kind == api.VCtx || p.Kind == api.VMem
}

// flat: a VCtx as the region that it is; all others as they are.
func (r *run) flat(p api.Val) api.Val {
	if p.Kind == api.VCtx {
		p.Kind, p.Id = api.VMem, r.m.ctx
	}
	return p
}

// load: see P14.7.
func (r *run) load(p api.Val, x api.Insn) api.Val {
	if p.Kind == api.VSock {
		return r.field(p, int(x.Off), op.Size(x))
	}
	if movable(p) {
		p = moved(p, int64(x.Off))
	}
	v, trap := r.m.mem.Load(r.flat(p), op.Size(x))
	must(trap)
	return v
}

// field: of the socket whose reference p has.
func (r *run) field(p api.Val, off, size int) api.Val {
	_, i, ok := r.ledger.What(p.Id)
	if !ok {
		raise(api.TrapDead)
	}
	n, trap := r.m.socks.Field(i, off, size)
	must(trap)
	return number(n)
}

// store: see P14.7.
func (r *run) store(p api.Val, x api.Insn, v api.Val) {
	if p.Kind == api.VSock {
		if v.Kind == api.VNone {
			raise(api.TrapUninit)
		}
		raise(api.TrapWrite)
	}
	if movable(p) {
		p = moved(p, int64(x.Off))
	}
	must(r.m.mem.Store(r.flat(p), op.Size(x), v))
}

// arithmetic: what an operation of the classes Alu and Alu64 makes of d and s: see P14.5.
func arithmetic(x api.Insn, d, s api.Val) api.Val {
	code, wide := int(x.Op>>4), x.Op&7 == api.Alu64
	switch {
	case code != api.Mov && d.Kind == api.VNone:
		raise(api.TrapUninit)
	case code == api.End:
		return turned(x, d)
	case s.Kind == api.VNone:
		raise(api.TrapUninit)
	case code == api.Mov && s.Kind != api.VNum:
		if !wide {
			raise(api.TrapPtr)
		}
		return s
	case s.Kind == api.VNum && (d.Kind == api.VNum || code == api.Mov):
		n, _ := alu.Do(code, wide, d.Num, s.Num)
		return number(n)
	case !wide:
		raise(api.TrapPtr)
	}
	return pointerSum(code, d, s)
}

// pointerSum: a pointer and a number added, or a number taken from a pointer; else a trap.
func pointerSum(code int, d, s api.Val) api.Val {
	switch {
	case code == api.Add && movable(d) && s.Kind == api.VNum:
		return moved(d, int64(s.Num))
	case code == api.Add && movable(s) && d.Kind == api.VNum:
		return moved(s, int64(d.Num))
	case code == api.Sub && movable(d) && s.Kind == api.VNum:
		n := int64(s.Num)
		if n > api.MaxOff || n < -api.MaxOff {
			raise(api.TrapPtr)
		}
		return moved(d, -n)
	}
	raise(api.TrapPtr)
	return api.Val{}
}

// turned: d with its bytes in the order that End asks for.
func turned(x api.Insn, d api.Val) api.Val {
	if d.Kind != api.VNum {
		raise(api.TrapPtr)
	}
	var n uint64
	if x.Op&7 == api.Alu64 {
		n, _ = alu.Turn(int(x.Imm), d.Num)
	} else {
		n, _ = alu.Swap(int(x.Imm), x.Op&op.ByRegister != 0, d.Num)
	}
	return number(n)
}

// jump: jumps, comparisons, calls.
func (r *run) jump(f *frame, p *program, x api.Insn) {
	switch {
	case x.Op == op.Jump:
		f.at = p.target[f.at]
	case x.Op == op.Call && x.Src == op.CallsSub:
		r.enter(p.target[f.at], f.regs[1:6]...)
	case x.Op == op.Call:
		r.help(f, int(x.Imm))
	case compared(x, f.regs[x.Dst], operand(f, x)):
		f.at = p.target[f.at]
	default:
		f.at++
	}
}

// compared: what a comparison tells: see P14.6.
func compared(x api.Insn, d, s api.Val) bool {
	code, wide := int(x.Op>>4), x.Op&7 == api.Jmp
	switch {
	case d.Kind == api.VNone || s.Kind == api.VNone:
		raise(api.TrapUninit)
	case d.Kind == api.VNum && s.Kind == api.VNum:
		yes, _ := alu.Cmp(code, wide, d.Num, s.Num)
		return yes
	case wide && x.Op&op.ByRegister == 0 && x.Imm == 0 && (code == api.Jeq || code == api.Jne):
		return code == api.Jne
	}
	raise(api.TrapPtr)
	return false
}
