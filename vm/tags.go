package vm

import (
	"math"

	"barbican/api"
)

// What lies where a tag does.
const (
	ofRing = iota + 1
	ofMemory
	ofNumbers
)

// tagged: a dynptr, of a ring or of memory, or an iterator.
type tagged struct {
	kind   int
	ref    int // of a ring's dynptr, of an iterator
	region int
	place  int64 // of a dynptr: where it begins
	size   uint64
	next   int64 // of an iterator: the numbers that are to come
	end    int64
}

func (t *tagged) iterator() bool { return t.kind == ofNumbers }

// tagAt: what lies at the pointer p, where a tag is.
func (r *run) tagAt(p api.Val) *tagged {
	tag, trap := r.m.mem.Tag(p)
	must(trap)
	return r.tags[tag-1]
}

// acquire: a reference; TrapRef, if none is left.
func (r *run) acquire(helper, what int) int {
	ref, ok := r.ledger.Acquire(helper, what)
	if !ok {
		raise(api.TrapRef)
	}
	return ref
}

func (r *run) dynReserve(c *call) api.Val {
	t := r.tagAt(c.args[2])
	ring, n := c.mapOf(0), c.num(1)
	t.kind = ofRing
	t.ref = r.acquire(api.HDynReserve, len(r.tags))
	id, e := r.m.rings[ring].Reserve(whole(n))
	if e != api.OK {
		return failed(errFull)
	}
	r.records[id] = record{ring: ring}
	t.region, t.size = id, n
	return number(0)
}

func (r *run) dynSubmit(c *call) api.Val { return r.settleDyn(c, api.HDynSubmit, true) }

func (r *run) dynDiscard(c *call) api.Val { return r.settleDyn(c, api.HDynDiscard, false) }

func (r *run) settleDyn(c *call, helper int, submit bool) api.Val {
	t := r.tagAt(c.args[0])
	demand(t.kind == ofRing)
	if t.size > 0 {
		r.settleRecord(t.region, submit)
	}
	r.ledger.Release(t.ref, helper)
	must(r.m.mem.Clear(c.args[0]))
	return number(0)
}

func (r *run) dynMem(c *call) api.Val {
	p, n := c.args[0], c.num(1)
	demand(p.Kind == api.VMem)
	must(r.m.mem.Can(p, whole(n)))
	*r.tagAt(c.args[2]) = tagged{kind: ofMemory, region: p.Id, place: p.Off, size: n}
	return number(0)
}

// holds: whether n bytes from off on lie in the dynptr.
func (t *tagged) holds(off, n uint64) bool { return off <= t.size && n <= t.size-off }

// inside: the pointer to what stands at off in the dynptr.
func (t *tagged) inside(off uint64) api.Val {
	return api.Val{Kind: api.VMem, Id: t.region, Off: t.place + int64(off)}
}

// missing: the result, if n bytes from off on don't lie in the dynptr.
func (t *tagged) missing(off, n uint64) (api.Val, bool) {
	switch {
	case t.size == 0:
		return failed(errArg), true
	case !t.holds(off, n):
		return failed(errRange), true
	}
	return api.Val{}, false
}

func (r *run) dynRead(c *call) api.Val {
	t, off, n := r.tagAt(c.args[2]), c.num(3), c.num(1)
	if v, ok := t.missing(off, n); ok {
		return v
	}
	b := r.read(t.inside(off), whole(n))
	must(r.m.mem.Write(c.args[0], b))
	return number(0)
}

func (r *run) dynWrite(c *call) api.Val {
	t, off, n := r.tagAt(c.args[0]), c.num(1), c.num(3)
	if v, ok := t.missing(off, n); ok {
		return v
	}
	must(r.m.mem.Write(t.inside(off), c.bytes[2]))
	return number(0)
}

func (r *run) dynData(c *call) api.Val {
	t, off, n := r.tagAt(c.args[0]), c.num(1), c.num(2)
	if t.size == 0 || n == 0 || !t.holds(off, n) {
		return number(0)
	}
	return t.inside(off)
}

// signed: the lowest 32 bits, as a number with a sign.
func signed(n uint64) int64 { return int64(int32(uint32(n & math.MaxUint32))) }

func (r *run) iterNew(c *call) api.Val {
	t := r.tagAt(c.args[0])
	t.kind = ofNumbers
	t.ref = r.acquire(api.HIterNew, len(r.tags))
	t.region = r.m.mem.Add(make([]byte, 4), false, 0)
	r.own = append(r.own, t.region)
	start, end := signed(c.num(1)), signed(c.num(2))
	switch {
	case start > end:
		return failed(errArg)
	case end-start > api.MaxLoop:
		return failed(errRange)
	}
	t.next, t.end = start, end
	return number(0)
}

func (r *run) iterNext(c *call) api.Val {
	t := r.tagAt(c.args[0])
	if t.next >= t.end {
		return number(0)
	}
	n := t.next
	t.next++
	r.m.mem.Set(t.region, 0, []byte{byte(n), byte(n >> 8), byte(n >> 16), byte(n >> 24)})
	return memory(t.region)
}

func (r *run) iterDrop(c *call) api.Val {
	t := r.tagAt(c.args[0])
	r.ledger.Release(t.ref, api.HIterDrop)
	r.m.mem.Kill(t.region)
	must(r.m.mem.Clear(c.args[0]))
	return number(0)
}
