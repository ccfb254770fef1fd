package verify

import (
	"math"

	"barbican/api"
	"barbican/scalar"
)

// ofSize: any number of so many bytes.
func ofSize(size int) api.Scalar {
	if size == slotSize {
		return scalar.Unknown()
	}
	return scalar.Between(0, lowest(size))
}

// lowest: the lowest size bytes, all bits set.
func lowest(size int) uint64 { return math.MaxUint64 >> (64 - 8*size) }

// within: whether n bytes from off, moved by by, on lie from from up to to, whatever off is.
func within(off api.Scalar, by, n, from, to int) bool {
	return off.Smin >= int64(from-by) && off.Smax <= int64(to-by-n)
}

// place: where in a frame's bytes n bytes from a stack pointer, moved by by, on lie; it must be known.
func place(p stackPtr, by, n int) (int, bool) {
	off, ok := knownAs(p.off)
	if !ok || !within(p.off, by, n, -api.StackSize, 0) {
		return 0, false
	}
	return int(off) + by + api.StackSize, true
}

// load: what a load of size bytes at p, moved by by, gives.
func (w *walker) load(s *state, p value, by, size int) value {
	switch x := p.(type) {
	case nothing:
		w.refuse(api.ErrVerifyReg)
	case stackPtr:
		at, ok := place(x, by, size)
		if !ok {
			w.refuse(api.ErrVerifyAccess)
		}
		return w.loadStack(s.frames[x.frame], at, size)
	case ctxPtr, memPtr:
		if !w.readable(s, p, by, size) {
			w.refuse(api.ErrVerifyAccess)
		}
		return number{ofSize(size)}
	case sockPtr:
		if size > fieldSize(by) {
			w.refuse(api.ErrVerifyAccess)
		}
		return number{ofSize(size)}
	}
	w.refuse(api.ErrVerifyPtr)
	return nil
}

// fieldSize: the bytes of the field of a socket that begins at off; 0, if none does.
func fieldSize(off int) int {
	switch off {
	case 0, 4, 8, 16:
		return 4
	case 12, 14:
		return 2
	}
	return 0
}

func (w *walker) loadStack(f *frame, at, size int) value {
	v := f.stack[at/slotSize]
	if size == slotSize && at%slotSize == 0 && isPointer(v) {
		return v
	}
	if !f.written(at, size) {
		w.refuse(api.ErrVerifyAccess)
	}
	if at%slotSize+size > slotSize {
		return number{ofSize(size)}
	}
	return number{part(v.(laid).n, at%slotSize, size)}
}

// part: size bytes of n, from at on.
func part(n api.Scalar, at, size int) api.Scalar {
	if size == slotSize {
		return n
	}
	n = scalar.Do(api.Rsh, true, n, scalar.Const(uint64(8*at)))
	return scalar.Do(api.And, true, n, scalar.Const(lowest(size)))
}

// written: whether n bytes from at on may be read as numbers.
func (f *frame) written(at, n int) bool {
	for i := at; i < at+n; i++ {
		x, ok := f.stack[i/slotSize].(laid)
		if !ok || x.written>>(i%slotSize)&1 == 0 {
			return false
		}
	}
	return true
}

// free: whether n bytes from at on may be written.
func (f *frame) free(at, n int) bool {
	for i := at; i < at+n; i++ {
		if isTag(f.stack[i/slotSize]) {
			return false
		}
	}
	return true
}

// put: size bytes of n stand from at on, in one slot or in two.
func (f *frame) put(at, size int, n api.Scalar) {
	first := min(size, slotSize-at%slotSize)
	f.putSlot(at, first, n)
	if first < size {
		f.putSlot(at+first, size-first, scalar.Do(api.Rsh, true, n, scalar.Const(uint64(8*first))))
	}
}

// putSlot: as put, all in one slot.
func (f *frame) putSlot(at, size int, n api.Scalar) {
	slot, shift := at/slotSize, uint64(8*(at%slotSize))
	if size == slotSize {
		f.stack[slot] = laid{n, math.MaxUint8}
		return
	}
	old, ok := f.stack[slot].(laid)
	if !ok {
		old = laid{n: scalar.Unknown()}
	}
	rest := scalar.Do(api.And, true, old.n, scalar.Const(^(lowest(size) << shift)))
	n = scalar.Do(api.And, true, n, scalar.Const(lowest(size)))
	n = scalar.Do(api.Lsh, true, n, scalar.Const(shift))
	f.stack[slot] = laid{scalar.Do(api.Or, true, rest, n), old.written | (1<<size-1)<<(at%slotSize)}
}

// store: size bytes of v are stored at p, moved by by.
func (w *walker) store(s *state, p value, by, size int, v value) {
	if isNothing(p) || isNothing(v) {
		w.refuse(api.ErrVerifyReg)
	}
	n, isNumber := v.(number)
	if !w.writable(s, p, by, size) {
		w.refuse(api.ErrVerifyAccess)
	}
	x, ok := p.(stackPtr)
	if !ok {
		if !isNumber {
			w.refuse(api.ErrVerifyAccess)
		}
		return
	}
	f := s.frames[x.frame]
	at, _ := place(x, by, size)
	switch {
	case isNumber:
		f.put(at, size, n.n)
	case size != slotSize || at%slotSize != 0:
		w.refuse(api.ErrVerifyAccess)
	default:
		f.stack[at/slotSize] = v
	}
}

// readable: whether n bytes at p, moved by by, may be read as numbers.
func (w *walker) readable(s *state, p value, by, n int) bool {
	switch x := p.(type) {
	case stackPtr:
		at, ok := place(x, by, n)
		return ok && s.frames[x.frame].written(at, n)
	case ctxPtr:
		return within(x.off, by, n, 0, api.CtxSize)
	case memPtr:
		return within(x.off, by, n, x.from, x.size)
	}
	return false
}

// writable: whether n bytes at p, moved by by, may be written.
func (w *walker) writable(s *state, p value, by, n int) bool {
	switch x := p.(type) {
	case stackPtr:
		at, ok := place(x, by, n)
		return ok && s.frames[x.frame].free(at, n)
	case memPtr:
		return x.origin != aFixed && within(x.off, by, n, x.from, x.size)
	}
	return false
}
