package verify

import (
	"barbican/api"
	"barbican/scalar"
)

// value: what a register, or a slot of a stack, may hold.
type value interface {
	// covers: whether this may be all that w may be, and can be used for no more; references are called by their names.
	covers(w value, n naming) bool
}

// nothing: what was never written, or may not be used any more. It covers whatever may be written over.
type nothing struct{}

// number: one of a scalar's.
type number struct{ n api.Scalar }

// stackPtr: to the stack of a frame, by its place among the frames.
type stackPtr struct {
	frame int
	off   api.Scalar
}

// ctxPtr: to the context.
type ctxPtr struct{ off api.Scalar }

// mapPtr: a map, by its number.
type mapPtr struct{ i int }

// funcPtr: a function, by its first slot.
type funcPtr struct{ at int }

// sockPtr: a socket, by its reference.
type sockPtr struct{ ref int }

// What regions memory pointers point to.
const (
	aValue  = iota + 1 // a map's value
	aRecord            // a ring's record
	aSlice             // what a dynptr tells of its region, from there on
	aFixed             // what isn't to be written: a key, an iterator's number
)

// memPtr: to a region, or to a part of it, whose bytes from from on, up to size, may be touched. It is good as long as its reference is held (0: always).
type memPtr struct {
	origin     int
	i          int // the map of a value
	ref        int
	from, size int
	off        api.Scalar
}

// laid: bytes in a slot of a stack: those that are written, a bit each, and what is known of all eight.
type laid struct {
	n       api.Scalar
	written uint8
}

// dyn: a dynptr in two slots of a stack: of a ring's record, with its own reference; or of memory, good as long as that one's reference is held.
type dyn struct {
	ring bool
	ref  int
	dead bool
}

// iter: an iterator in two slots of a stack: its reference, and how many numbers are to come, at least and at most.
type iter struct {
	ref         int
	least, most int
}

// half: the second slot of a dynptr or an iterator.
type half struct{}

// isTag: whether a slot may not be touched but by helpers.
func isTag(v value) bool {
	switch v.(type) {
	case dyn, iter, half:
		return true
	}
	return false
}

func isPointer(v value) bool {
	switch v.(type) {
	case stackPtr, ctxPtr, mapPtr, memPtr, sockPtr, funcPtr:
		return true
	}
	return false
}

func isNothing(v value) bool {
	_, ok := v.(nothing)
	return ok
}

func constant(n uint64) value { return number{scalar.Const(n)} }

// knownAs: the number that s is, if it can be no other one.
func knownAs(s api.Scalar) (int64, bool) { return int64(s.Umin), s.Umin == s.Umax }

// naming: the references of two states, in the order in which they were acquired; those at the same place are called the same.
type naming struct{ older, newer []reference }

// same: whether a of the older state is called as b of the newer one.
func (n naming) same(a, b int) bool { return placeOf(n.older, a) == placeOf(n.newer, b) }

// placeOf: where a reference stands among those that are held; -1: it doesn't.
func placeOf(l []reference, id int) int {
	for i, r := range l {
		if r.id == id {
			return i
		}
	}
	return -1
}

func (nothing) covers(w value, _ naming) bool { return !isTag(w) }

func (v number) covers(w value, _ naming) bool {
	x, ok := w.(number)
	return ok && scalar.In(x.n, v.n)
}

func (v stackPtr) covers(w value, _ naming) bool {
	x, ok := w.(stackPtr)
	return ok && x.frame == v.frame && scalar.In(x.off, v.off)
}

func (v ctxPtr) covers(w value, _ naming) bool {
	x, ok := w.(ctxPtr)
	return ok && scalar.In(x.off, v.off)
}

func (v mapPtr) covers(w value, _ naming) bool { return w == v }

func (v funcPtr) covers(w value, _ naming) bool { return w == v }

func (v sockPtr) covers(w value, n naming) bool {
	x, ok := w.(sockPtr)
	return ok && n.same(v.ref, x.ref)
}

func (v memPtr) covers(w value, n naming) bool {
	x, ok := w.(memPtr)
	if !ok || x.origin != v.origin || x.i != v.i || !n.same(v.ref, x.ref) {
		return false
	}
	return x.from <= v.from && x.size >= v.size && scalar.In(x.off, v.off)
}

func (v laid) covers(w value, _ naming) bool {
	x, ok := w.(laid)
	return ok && v.written&^x.written == 0 && scalar.In(x.n, v.n)
}

func (v dyn) covers(w value, n naming) bool {
	x, ok := w.(dyn)
	return ok && x.ring == v.ring && x.dead == v.dead && n.same(v.ref, x.ref)
}

func (v iter) covers(w value, n naming) bool {
	x, ok := w.(iter)
	return ok && n.same(v.ref, x.ref) && v.least <= x.least && v.most >= x.most
}

func (half) covers(w value, _ naming) bool { return w == half{} }

// without: what is left of v when a reference is let go.
func without(v value, ref int) value {
	switch x := v.(type) {
	case memPtr:
		if x.ref == ref {
			return nothing{}
		}
	case sockPtr:
		if x.ref == ref {
			return nothing{}
		}
	case dyn:
		if x.ref == ref {
			x.dead = true
			return x
		}
	}
	return v
}

// behind: what is left of v when the frame at that place is gone.
func behind(v value, frame int) value {
	if x, ok := v.(stackPtr); ok && x.frame == frame {
		return nothing{}
	}
	return v
}
