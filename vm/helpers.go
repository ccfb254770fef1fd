package vm

import (
	"math"

	"barbican/api"
)

// Results that are errors.
const (
	errNone  = -2
	errRange = -7
	errBusy  = -16
	errHas   = -17
	errArg   = -22
	errFull  = -28
)

func failed(code int64) api.Val { return number(uint64(code)) }

// helperTable: what does each helper, by its number.
type helperTable [api.HIterDrop + 1]func(r *run, c *call) api.Val

func helperFuncs() helperTable {
	return helperTable{
		api.HMapLookup: (*run).mapLookup, api.HMapUpdate: (*run).mapUpdate, api.HMapDelete: (*run).mapDelete,
		api.HClock: (*run).clock, api.HRandom: (*run).random, api.HTailCall: (*run).tailCall, api.HLoop: (*run).loop,
		api.HRingOutput: (*run).ringOutput, api.HRingReserve: (*run).ringReserve, api.HRingSubmit: (*run).ringSubmit,
		api.HRingDiscard: (*run).ringDiscard, api.HRingQuery: (*run).ringQuery,
		api.HSockLookup: (*run).sockLookup, api.HSockRelease: (*run).sockRelease,
		api.HTimerInit: (*run).timerInit, api.HTimerCallback: (*run).timerCallback, api.HTimerStart: (*run).timerStart,
		api.HTimerCancel: (*run).timerCancel,
		api.HDynReserve:  (*run).dynReserve, api.HDynSubmit: (*run).dynSubmit, api.HDynDiscard: (*run).dynDiscard,
		api.HDynMem: (*run).dynMem, api.HDynRead: (*run).dynRead, api.HDynWrite: (*run).dynWrite, api.HDynData: (*run).dynData,
		api.HIterNew: (*run).iterNew, api.HIterNext: (*run).iterNext, api.HIterDrop: (*run).iterDrop,
	}
}

// mapResult: what a helper of maps tells of an error.
func mapResult(e api.Errno) api.Val {
	switch e {
	case api.OK:
		return number(0)
	case api.ErrMapsNone:
		return failed(errNone)
	case api.ErrMapsFull:
		return failed(errRange)
	case api.ErrMapsHas:
		return failed(errHas)
	}
	return failed(errArg)
}

func (r *run) mapLookup(c *call) api.Val {
	id, ok, _ := r.m.maps[c.mapOf(0)].Lookup(c.bytes[1])
	if !ok {
		return number(0)
	}
	return memory(id)
}

func (r *run) mapUpdate(c *call) api.Val {
	return mapResult(r.m.maps[c.mapOf(0)].Update(c.bytes[1], c.bytes[2], c.num(3)))
}

func (r *run) mapDelete(c *call) api.Val {
	id, e := r.m.maps[c.mapOf(0)].Delete(c.bytes[1])
	if e == api.OK {
		r.m.wheel.Drop(id)
		r.deleted[id] = c.mapOf(0)
	}
	return mapResult(e)
}

func (r *run) clock(*call) api.Val { return number(r.m.Now()) }

func (r *run) random(*call) api.Val {
	if r.draws >= len(r.env.Draws) {
		return number(0)
	}
	r.draws++
	return number(uint64(r.env.Draws[r.draws-1]))
}

func (r *run) tailCall(c *call) api.Val {
	demand(len(r.frames) == 1 && !r.timer)
	if len(r.ledger.Held()) > 0 {
		raise(api.TrapRef)
	}
	prog, ok := r.m.maps[c.mapOf(1)].Prog(c.num(2))
	if !ok || r.tails >= api.MaxTail {
		return failed(errNone)
	}
	r.tails++
	r.prog = prog
	r.pop()
	r.push(0, context())
	return api.Val{}
}

func (r *run) loop(c *call) api.Val {
	n := c.num(0)
	if n > api.MaxLoop {
		return failed(errRange)
	}
	for i := range n {
		if r.callback(c.args[1].Id, number(i), c.args[2]) != 0 {
			return number(i + 1)
		}
	}
	return number(n)
}

// whole: a number of bytes as an int; one that is too large anyhow is cut.
func whole(n uint64) int { return int(min(n, math.MaxInt32)) }

// room: whether a reference is left.
func (r *run) room() bool { return len(r.ledger.Held()) < api.MaxRefs }

func (r *run) ringOutput(c *call) api.Val {
	if r.m.rings[c.mapOf(0)].Output(c.bytes[1]) != api.OK {
		return failed(errFull)
	}
	return number(0)
}

func (r *run) ringReserve(c *call) api.Val {
	if !r.room() {
		return number(0)
	}
	ring := c.mapOf(0)
	id, e := r.m.rings[ring].Reserve(whole(c.num(1)))
	if e != api.OK {
		return number(0)
	}
	ref, _ := r.ledger.Acquire(api.HRingReserve, id)
	r.records[id] = record{ring, ref}
	return memory(id)
}

func (r *run) ringSubmit(c *call) api.Val { return r.settle(c, api.HRingSubmit, true) }

func (r *run) ringDiscard(c *call) api.Val { return r.settle(c, api.HRingDiscard, false) }

// settle: the record that the first argument is is submitted, or discarded.
func (r *run) settle(c *call, helper int, submit bool) api.Val {
	id := c.args[0].Id
	ref := r.records[id].ref
	r.settleRecord(id, submit)
	r.ledger.Release(ref, helper)
	return number(0)
}

// settleRecord: the pending record of the region id is submitted, or discarded.
func (r *run) settleRecord(id int, submit bool) {
	ring := r.m.rings[r.records[id].ring]
	if submit {
		ring.Submit(id)
	} else {
		ring.Discard(id)
	}
	delete(r.records, id)
}

func (r *run) ringQuery(c *call) api.Val {
	return number(uint64(r.m.rings[c.mapOf(0)].Used()))
}

func (r *run) sockLookup(c *call) api.Val {
	if c.num(2) != api.TupleSize || r.found >= len(r.env.Socks) {
		return number(0)
	}
	r.found++
	i := r.env.Socks[r.found-1]
	if i < 0 {
		return number(0)
	}
	ref, ok := r.ledger.Acquire(api.HSockLookup, i)
	if !ok {
		return number(0)
	}
	r.m.socks.Take(i)
	return api.Val{Kind: api.VSock, Id: ref}
}

func (r *run) sockRelease(c *call) api.Val {
	i, _ := r.ledger.Release(c.args[0].Id, api.HSockRelease)
	r.m.socks.Drop(i)
	return number(0)
}

func (r *run) timerInit(c *call) api.Val {
	id := c.args[0].Id
	if _, ok := r.m.maps[c.mapOf(1)].Key(id); !ok {
		return failed(errArg)
	}
	if r.m.wheel.Init(id) != api.OK {
		return failed(errBusy)
	}
	return number(0)
}

func (r *run) timerCallback(c *call) api.Val {
	return timerResult(r.m.wheel.Callback(c.args[0].Id, r.prog, c.args[1].Id))
}

func (r *run) timerStart(c *call) api.Val {
	return timerResult(r.m.wheel.Start(c.args[0].Id, c.num(1)))
}

func timerResult(e api.Errno) api.Val {
	if e != api.OK {
		return failed(errArg)
	}
	return number(0)
}

func (r *run) timerCancel(c *call) api.Val {
	was, e := r.m.wheel.Cancel(c.args[0].Id)
	switch {
	case e != api.OK:
		return failed(errArg)
	case was:
		return number(1)
	}
	return number(0)
}
