package region

import (
	"slices"

	"barbican/api"
)

// area: a region.
type area struct {
	bytes  []byte
	write  bool
	hidden int // how many of the first bytes
	dead   bool
}

func (a *area) span() (int64, int64) { return 0, int64(len(a.bytes)) }

func (a *area) load(at, size int) (api.Val, int) {
	if a.hides(at, size) {
		return api.Val{}, api.TrapTag
	}
	return number(a.bytes[at : at+size]), api.TrapNone
}

// hides: whether one of n bytes from at on is hidden.
func (a *area) hides(at, n int) bool { return n > 0 && at < a.hidden }

func (a *area) store(at, size int, v api.Val) int {
	if trap := a.can(at, size); trap != api.TrapNone {
		return trap
	}
	if v.Kind != api.VNum {
		return api.TrapSpill
	}
	putNumber(a.bytes[at:at+size], v.Num)
	return api.TrapNone
}

func (a *area) read(at, n int) ([]byte, int) {
	if a.hides(at, n) {
		return nil, api.TrapTag
	}
	return slices.Clone(a.bytes[at : at+n]), api.TrapNone
}

func (a *area) can(at, n int) int {
	switch {
	case !a.write:
		return api.TrapWrite
	case a.hides(at, n):
		return api.TrapTag
	}
	return api.TrapNone
}

func (a *area) put(at int, b []byte) { copy(a.bytes[at:], b) }

// number: of the bytes, the lowest first.
func number(b []byte) api.Val {
	v := api.Val{Kind: api.VNum}
	for i, x := range b {
		v.Num |= uint64(x) << (8 * i)
	}
	return v
}

// putNumber: as many of n's lowest bytes as b has.
func putNumber(b []byte, n uint64) {
	for i := range b {
		b[i] = byte(n >> (8 * i))
	}
}
