package vm

import (
	"barbican/api"
)

const maxSize = 4096 // bytes that a helper takes at once

// call: of a helper: its arguments, and the bytes at those that are memory.
type call struct {
	args  [5]api.Val
	bytes [5][]byte
}

// mapOf: the number of the map that the argument i is.
func (c *call) mapOf(i int) int { return c.args[i].Id }

// num: the number that the argument i is.
func (c *call) num(i int) uint64 { return c.args[i].Num }

// help: the call of the helper n: see P14.9.
func (r *run) help(f *frame, n int) {
	c := &call{args: [5]api.Val(f.regs[1:6])}
	p := r.m.protos[n-1]
	for i, kind := range p.Args {
		if kind == api.ANone {
			break
		}
		if c.args[i].Kind == api.VNone {
			raise(api.TrapUninit)
		}
		r.checkArg(c, i, kind, p.Maps)
	}
	result := r.helpers[n](r, c)
	// Behind a tail call this frame is no more.
	if r.top() == f {
		finish(f, result)
	}
}

// checkArg: the argument i, which isn't VNone, by its kind.
func (r *run) checkArg(c *call, i, kind, kinds int) {
	v := c.args[i]
	switch kind {
	case api.ANum, api.ASize:
		demand(v.Kind == api.VNum)
	case api.AMap:
		demand(v.Kind == api.VMap && kinds>>r.m.defs[v.Id].Kind&1 == 1)
	case api.AKey:
		c.bytes[i] = r.read(v, r.m.defs[c.mapOf(0)].Key)
	case api.AValue:
		c.bytes[i] = r.read(v, r.m.defs[c.mapOf(0)].Value)
	case api.AMem:
		c.bytes[i] = r.read(v, size(c.args[i+1]))
	case api.AOut:
		r.checkOut(v, size(c.args[i+1]))
	case api.ACtx:
		demand(v == context())
	case api.AFunc:
		demand(v.Kind == api.VFunc)
	case api.ACallCtx:
		demand(v.Kind == api.VStack || v == number(0))
	default:
		r.checkHeld(v, kind)
	}
}

// checkHeld: arguments that are what an invocation holds, or may come to hold.
func (r *run) checkHeld(v api.Val, kind int) {
	switch kind {
	case api.ARec:
		demand(v == memory(v.Id) && r.records[v.Id].ref != 0)
	case api.ASock:
		demand(v.Kind == api.VSock)
		if _, _, ok := r.ledger.What(v.Id); !ok {
			raise(api.TrapRef)
		}
	case api.ATimer:
		demand(v == memory(v.Id) && r.isTimer(v.Id))
	case api.ADynNew, api.AIterNew:
		r.tags = append(r.tags, &tagged{})
		must(r.m.mem.Mark(v, len(r.tags)))
	case api.ADyn, api.AIter:
		tag, trap := r.m.mem.Tag(v)
		must(trap)
		if r.tags[tag-1].iterator() != (kind == api.AIter) {
			raise(api.TrapTag)
		}
	}
}

// demand: TrapArg, if an argument isn't as it must be.
func demand(right bool) {
	if !right {
		raise(api.TrapArg)
	}
}

// size: the number of bytes that is told behind a pointer.
func size(v api.Val) int {
	if v.Kind == api.VNone {
		raise(api.TrapUninit)
	}
	demand(v.Kind == api.VNum && v.Num >= 1 && v.Num <= maxSize)
	return int(v.Num)
}

func (r *run) read(p api.Val, n int) []byte {
	b, trap := r.m.mem.Read(r.flat(p), n)
	must(trap)
	return b
}

func (r *run) checkOut(p api.Val, n int) {
	if p.Kind == api.VCtx {
		raise(api.TrapWrite)
	}
	must(r.m.mem.Can(p, n))
}

// isTimer: whether the region is a value of a map with timers, that was there when the invocation began, or came later.
func (r *run) isTimer(id int) bool {
	if i, ok := r.deleted[id]; ok {
		return r.m.defs[i].Timer
	}
	_, _, ok := r.m.timerOf(id)
	return ok
}
