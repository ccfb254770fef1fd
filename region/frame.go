package region

import (
	"slices"

	"barbican/api"
)

const (
	slotSize = 8
	slots    = api.StackSize / slotSize
	tagSize  = 2 * slotSize
)

// frame: a stack. A slot holds bytes, or a pointer, or a half of a tag.
type frame struct {
	bytes    [api.StackSize]byte
	written  [slots]uint8 // a bit for each byte
	pointers [slots]api.Val
	tags     [slots]int
	begins   [slots]bool // whether a tag begins there
}

func (f *frame) span() (int64, int64) { return -api.StackSize, 0 }

// touched: the first and the last slot of which one of n bytes, at least one, from at on is.
func touched(at, n int) (int, int) { return at / slotSize, (at + n - 1) / slotSize }

func (f *frame) load(at, size int) (api.Val, int) {
	slot := at / slotSize
	if size == slotSize && at%slotSize == 0 && f.tags[slot] == 0 && f.pointers[slot].Kind != api.VNone {
		return f.pointers[slot], api.TrapNone
	}
	if trap := f.readable(at, size); trap != api.TrapNone {
		return api.Val{}, trap
	}
	return number(f.bytes[at : at+size]), api.TrapNone
}

// readable: the trap of reading bytes as numbers.
func (f *frame) readable(at, n int) int {
	if n == 0 {
		return api.TrapNone
	}
	first, last := touched(at, n)
	for s := first; s <= last; s++ {
		if f.tags[s] != 0 {
			return api.TrapTag
		}
	}
	for s := first; s <= last; s++ {
		if f.pointers[s].Kind != api.VNone {
			return api.TrapSpill
		}
	}
	for i := at; i < at+n; i++ {
		if f.written[i/slotSize]&(1<<(i%slotSize)) == 0 {
			return api.TrapUninit
		}
	}
	return api.TrapNone
}

func (f *frame) store(at, size int, v api.Val) int {
	if trap := f.can(at, size); trap != api.TrapNone {
		return trap
	}
	if v.Kind == api.VNum {
		var b [slotSize]byte
		putNumber(b[:], v.Num)
		f.put(at, b[:size])
		return api.TrapNone
	}
	if size != slotSize || at%slotSize != 0 {
		return api.TrapSpill
	}
	f.pointers[at/slotSize] = v
	f.written[at/slotSize] = 0
	return api.TrapNone
}

func (f *frame) read(at, n int) ([]byte, int) {
	if trap := f.readable(at, n); trap != api.TrapNone {
		return nil, trap
	}
	return slices.Clone(f.bytes[at : at+n]), api.TrapNone
}

func (f *frame) can(at, n int) int {
	if n == 0 {
		return api.TrapNone
	}
	first, last := touched(at, n)
	for s := first; s <= last; s++ {
		if f.tags[s] != 0 {
			return api.TrapTag
		}
	}
	return api.TrapNone
}

func (f *frame) put(at int, b []byte) {
	for i, x := range b {
		slot := (at + i) / slotSize
		if f.pointers[slot].Kind != api.VNone {
			f.empty(slot)
		}
		f.bytes[at+i] = x
		f.written[slot] |= 1 << ((at + i) % slotSize)
	}
}

// empty: a slot as nothing was ever laid there.
func (f *frame) empty(slot int) {
	f.pointers[slot] = api.Val{}
	f.written[slot] = 0
	f.tags[slot] = 0
	f.begins[slot] = false
}

func (f *frame) mark(slot, tag int) int {
	if f.tags[slot] != 0 || f.tags[slot+1] != 0 {
		return api.TrapTag
	}
	for s := slot; s < slot+2; s++ {
		f.empty(s)
		f.tags[s] = tag
	}
	f.begins[slot] = true
	return api.TrapNone
}

func (f *frame) tagAt(at int) (int, int) {
	if at%slotSize != 0 || !f.begins[at/slotSize] {
		return 0, api.TrapTag
	}
	return f.tags[at/slotSize], api.TrapNone
}

// unmark: takes away the tag that begins at slot.
func (f *frame) unmark(slot int) {
	f.empty(slot)
	f.empty(slot + 1)
}
