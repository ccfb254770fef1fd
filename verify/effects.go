package verify

import (
	"math"

	"barbican/api"
	"barbican/scalar"
)

// Results that are errors.
const (
	errNone  = -2
	errRange = -7
	errBusy  = -16
	errHas   = -17
	errArg   = -22
	errFull  = -28
)

// effectTable: what may come of each helper, by its number, where its arguments are right.
type effectTable [api.HIterDrop + 1]func(w *walker, s *state, a args) []*state

func effects() effectTable {
	return effectTable{
		api.HMapLookup: (*walker).mapLookup, api.HMapUpdate: (*walker).mapUpdate, api.HMapDelete: (*walker).mapDelete,
		api.HClock: (*walker).clock, api.HRandom: (*walker).random, api.HTailCall: (*walker).tailCall, api.HLoop: (*walker).loop,
		api.HRingOutput: (*walker).ringOutput, api.HRingReserve: (*walker).ringReserve, api.HRingSubmit: (*walker).settle,
		api.HRingDiscard: (*walker).settle, api.HRingQuery: (*walker).ringQuery,
		api.HSockLookup: (*walker).sockLookup, api.HSockRelease: (*walker).sockRelease,
		api.HTimerInit: (*walker).timerInit, api.HTimerCallback: (*walker).timerCallback, api.HTimerStart: (*walker).timerStart,
		api.HTimerCancel: (*walker).timerCancel,
		api.HDynReserve:  (*walker).dynReserve, api.HDynSubmit: (*walker).settleDyn, api.HDynDiscard: (*walker).settleDyn,
		api.HDynMem: (*walker).dynMem, api.HDynRead: (*walker).dynRead, api.HDynWrite: (*walker).dynWrite, api.HDynData: (*walker).dynData,
		api.HIterNew: (*walker).iterNew, api.HIterNext: (*walker).iterNext, api.HIterDrop: (*walker).iterDrop,
	}
}

// one: the state s alone, with the helper's result.
func one(s *state, result value) []*state { return []*state{s.finish(result)} }

// orNull: two states: in one the result is 0, the other is s as found leaves it.
func orNull(s *state, found func(t *state) value) []*state {
	null := s.copy()
	return []*state{null.finish(constant(0)), s.finish(found(s))}
}

func (w *walker) mapLookup(s *state, a args) []*state {
	return orNull(s, func(*state) value { return w.valueOf(a.mapOf(0)) })
}

func (w *walker) mapUpdate(s *state, _ args) []*state {
	return one(s, either(0, errNone, errRange, errHas, errArg))
}

func (w *walker) mapDelete(s *state, _ args) []*state {
	return one(s, either(0, errNone, errArg))
}

func (w *walker) clock(s *state, _ args) []*state { return one(s, number{scalar.Unknown()}) }

func (w *walker) random(s *state, _ args) []*state { return one(s, number{ofSize(4)}) }

// tailCall: the program that is gone on with is looked at by itself. (A timer's invocation has no context to hand on.)
func (w *walker) tailCall(s *state, _ args) []*state {
	if len(s.frames) > 1 {
		w.refuse(api.ErrVerifyCall)
	}
	if len(s.refs) > 0 {
		w.refuse(api.ErrVerifyRef)
	}
	return one(s, either(errNone))
}

func (w *walker) ringOutput(s *state, _ args) []*state { return one(s, either(0, errFull)) }

func (w *walker) ringReserve(s *state, a args) []*state {
	n := a.num(1)
	if s.full() || n.Umax == 0 || n.Umin > api.MaxRing {
		return one(s, constant(0))
	}
	return orNull(s, func(t *state) value {
		return memPtr{origin: aRecord, ref: t.acquire(api.HRingReserve), size: int(max(n.Umin, 1)), off: scalar.Const(0)}
	})
}

// settle: a record is submitted or discarded.
func (w *walker) settle(s *state, a args) []*state {
	s.release(a[0].(memPtr).ref)
	return one(s, constant(0))
}

func (w *walker) ringQuery(s *state, _ args) []*state {
	return one(s, number{scalar.Between(0, api.MaxRing)})
}

func (w *walker) sockLookup(s *state, a args) []*state {
	if s.full() || !scalar.Has(a.num(2), api.TupleSize) {
		return one(s, constant(0))
	}
	return orNull(s, func(t *state) value { return sockPtr{t.acquire(api.HSockLookup)} })
}

func (w *walker) sockRelease(s *state, a args) []*state {
	s.release(a[0].(sockPtr).ref)
	return one(s, constant(0))
}

func (w *walker) timerInit(s *state, _ args) []*state {
	return one(s, either(0, errBusy, errArg))
}

// timerCallback: the function is to be looked at as a callback of timers of that map, once.
func (w *walker) timerCallback(s *state, a args) []*state {
	e := entry{a[0].(memPtr).i, a[1].(funcPtr).at}
	if _, ok := w.queued[e]; !ok {
		w.queued[e] = len(w.entries)
		w.entries = append(w.entries, e)
	}
	return one(s, either(0, errArg))
}

func (w *walker) timerStart(s *state, _ args) []*state { return one(s, either(0, errArg)) }

func (w *walker) timerCancel(s *state, _ args) []*state { return one(s, either(0, 1, errArg)) }

func (w *walker) dynReserve(s *state, a args) []*state {
	if s.full() {
		w.refuse(api.ErrVerifyRef)
	}
	mark(s, a[2], dyn{ring: true, ref: s.acquire(api.HDynReserve)})
	return one(s, either(0, errFull))
}

// settleDyn: a ring's dynptr is submitted or discarded.
func (w *walker) settleDyn(s *state, a args) []*state {
	d := tagOf(s, a[0]).(dyn)
	if !d.ring {
		w.refuse(api.ErrVerifyCall)
	}
	unmark(s, a[0])
	s.release(d.ref)
	return one(s, constant(0))
}

func (w *walker) dynMem(s *state, a args) []*state {
	p, ok := a[0].(memPtr)
	n, _ := size(a[1])
	if !ok || !w.writable(s, p, 0, n) {
		w.refuse(api.ErrVerifyCall)
	}
	mark(s, a[2], dyn{ref: p.ref})
	return one(s, constant(0))
}

// dynRead: of what is read to a stack it must be told whether it was.
func (w *walker) dynRead(s *state, a args) []*state {
	p, ok := a[0].(stackPtr)
	if !ok {
		return one(s, either(0, errRange, errArg))
	}
	failed := s.copy()
	at, _ := place(p, 0, 1)
	least := int(a.num(1).Umin)
	most, _ := size(a[1])
	f := s.frames[p.frame]
	for i := at; i < at+most; i++ {
		if i >= at+least && isPointer(f.stack[i/slotSize]) {
			f.stack[i/slotSize] = nothing{} // it is one, or bytes
		} else if i < at+least || f.written(i, 1) {
			f.put(i, 1, ofSize(1))
		}
	}
	return []*state{failed.finish(either(errRange, errArg)), s.finish(constant(0))}
}

func (w *walker) dynWrite(s *state, _ args) []*state {
	return one(s, either(0, errRange, errArg))
}

func (w *walker) dynData(s *state, a args) []*state {
	n := a.num(2)
	if n.Umax == 0 || n.Umin > maxSize {
		return one(s, constant(0))
	}
	ref := tagOf(s, a[0]).(dyn).ref
	return orNull(s, func(*state) value {
		return memPtr{origin: aSlice, ref: ref, size: int(max(n.Umin, 1)), off: scalar.Const(0)}
	})
}

// signed: the lowest 32 bits of a number, with their sign, if it is known.
func signed(n api.Scalar) (int64, bool) {
	k, ok := knownAs(n)
	return int64(int32(uint32(k & math.MaxUint32))), ok
}

func (w *walker) iterNew(s *state, a args) []*state {
	if s.full() {
		w.refuse(api.ErrVerifyRef)
	}
	it := iter{ref: s.acquire(api.HIterNew), most: api.MaxLoop}
	result := either(0, errRange, errArg)
	start, ok := signed(a.num(1))
	end, also := signed(a.num(2))
	if ok && also {
		it.most, result = 0, constant(0)
		switch {
		case start > end:
			result = either(errArg)
		case end-start > api.MaxLoop:
			result = either(errRange)
		default:
			it.most = int(end - start)
		}
		it.least = it.most
	}
	mark(s, a[0], it)
	return one(s, result)
}

func (w *walker) iterNext(s *state, a args) []*state {
	it := tagOf(s, a[0]).(iter)
	var next []*state
	if it.least == 0 {
		t := s.copy()
		mark(t, a[0], iter{ref: it.ref})
		next = append(next, t.finish(constant(0)))
	}
	if it.most > 0 {
		mark(s, a[0], iter{it.ref, max(it.least-1, 0), it.most - 1})
		next = append(next, s.finish(memPtr{origin: aFixed, ref: it.ref, size: 4, off: scalar.Const(0)}))
	}
	return next
}

func (w *walker) iterDrop(s *state, a args) []*state {
	ref := tagOf(s, a[0]).(iter).ref
	unmark(s, a[0])
	s.release(ref)
	return one(s, constant(0))
}
