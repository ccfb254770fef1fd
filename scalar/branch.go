package scalar

import (
	"math"

	"barbican/alu"
	"barbican/api"
	"barbican/tnum"
)

// relation: what two sides, a and b, may be held to be. Each method leaves of them what may be so; false, if nothing may.
type relation struct{ a, b api.Scalar }

// notSet: the contrary of Jset, which has no operation of its own.
const notSet = -1

// Branch: see P7.4.
func Branch(op int, wide, taken bool, a, b api.Scalar) (api.Scalar, api.Scalar, bool) {
	a, b = known(a), known(b)
	if _, ok := alu.Cmp(op, wide, 0, 0); !ok {
		return a, b, true
	}
	if !taken {
		op = contrary(op)
	}
	var r relation
	var ok bool
	if wide {
		r, ok = relation{a, b}.holds(op)
	} else {
		r, ok = relation{a, b}.holdsNarrow(op)
	}
	if !ok {
		return api.Scalar{}, api.Scalar{}, false
	}
	return r.a, r.b, true
}

// Decided: see P7.4.
func Decided(op int, wide bool, a, b api.Scalar) (bool, bool) {
	if _, ok := alu.Cmp(op, wide, 0, 0); !ok {
		return false, false
	}
	if _, _, may := Branch(op, wide, true, a, b); !may {
		return true, false
	}
	if _, _, may := Branch(op, wide, false, a, b); !may {
		return true, true
	}
	return false, false
}

// contrary: the comparison that is true where op isn't.
func contrary(op int) int {
	switch op {
	case api.Jeq:
		return api.Jne
	case api.Jne:
		return api.Jeq
	case api.Jgt:
		return api.Jle
	case api.Jle:
		return api.Jgt
	case api.Jge:
		return api.Jlt
	case api.Jlt:
		return api.Jge
	case api.Jsgt:
		return api.Jsle
	case api.Jsle:
		return api.Jsgt
	case api.Jsge:
		return api.Jslt
	case api.Jslt:
		return api.Jsge
	}
	return notSet
}

func (r relation) holds(op int) (relation, bool) {
	switch op {
	case api.Jeq:
		return r.equal()
	case api.Jne:
		return r.unlike()
	case api.Jgt:
		return r.above()
	case api.Jge:
		return r.notBelow()
	case api.Jlt:
		return r.turned(relation.above)
	case api.Jle:
		return r.turned(relation.notBelow)
	case api.Jsgt:
		return r.aboveSigned()
	case api.Jsge:
		return r.notBelowSigned()
	case api.Jslt:
		return r.turned(relation.aboveSigned)
	case api.Jsle:
		return r.turned(relation.notBelowSigned)
	case api.Jset:
		return r.meeting()
	}
	return r.apart()
}

// turned: a rule with its sides changed.
func (r relation) turned(rule func(relation) (relation, bool)) (relation, bool) {
	t, ok := rule(relation{r.b, r.a})
	return relation{t.b, t.a}, ok
}

// synced: both sides with what each part tells of the others.
func (r relation) synced() (relation, bool) {
	a, ok := Sync(r.a)
	b, also := Sync(r.b)
	return relation{a, b}, ok && also
}

func (r relation) equal() (relation, bool) {
	both, ok := Meet(r.a, r.b)
	return relation{both, both}, ok
}

func (r relation) unlike() (relation, bool) {
	a, b := r.a, r.b
	if isConst(a) && isConst(b) {
		return r, a.Umin != b.Umin
	}
	if isConst(b) {
		r.a = except(a, b.Umin)
	}
	if isConst(a) {
		r.b = except(b, a.Umin)
	}
	return r.synced()
}

// except: s, which isn't n alone, without n, where n is at an end.
func except(s api.Scalar, n uint64) api.Scalar {
	if s.Umin == n {
		s.Umin++
	}
	if s.Umax == n {
		s.Umax--
	}
	if s.Smin == int64(n) {
		s.Smin++
	}
	if s.Smax == int64(n) {
		s.Smax--
	}
	return s
}

func (r relation) above() (relation, bool) {
	if r.b.Umin == math.MaxUint64 || r.a.Umax == 0 {
		return relation{}, false
	}
	least, most := r.b.Umin+1, r.a.Umax-1
	r.a.Umin = max(r.a.Umin, least)
	r.b.Umax = min(r.b.Umax, most)
	return r.synced()
}

func (r relation) notBelow() (relation, bool) {
	least, most := r.b.Umin, r.a.Umax
	r.a.Umin = max(r.a.Umin, least)
	r.b.Umax = min(r.b.Umax, most)
	return r.synced()
}

func (r relation) aboveSigned() (relation, bool) {
	if r.b.Smin == math.MaxInt64 || r.a.Smax == math.MinInt64 {
		return relation{}, false
	}
	least, most := r.b.Smin+1, r.a.Smax-1
	r.a.Smin = max(r.a.Smin, least)
	r.b.Smax = min(r.b.Smax, most)
	return r.synced()
}

func (r relation) notBelowSigned() (relation, bool) {
	least, most := r.b.Smin, r.a.Smax
	r.a.Smin = max(r.a.Smin, least)
	r.b.Smax = min(r.b.Smax, most)
	return r.synced()
}

// meeting: a bit is set in both.
func (r relation) meeting() (relation, bool) {
	bit := tnum.Most(r.a.T) & tnum.Most(r.b.T)
	if bit == 0 {
		return relation{}, false
	}
	if bit&(bit-1) != 0 {
		return r, true
	}
	return r.withBits(api.Tnum{Value: bit, Mask: ^bit}, api.Tnum{Value: bit, Mask: ^bit})
}

// apart: no bit is set in both.
func (r relation) apart() (relation, bool) {
	return r.withBits(api.Tnum{Mask: ^r.b.T.Value}, api.Tnum{Mask: ^r.a.T.Value})
}

// withBits: both sides, with what is known of their bits besides.
func (r relation) withBits(a, b api.Tnum) (relation, bool) {
	var ok, also bool
	r.a.T, ok = tnum.Meet(r.a.T, a)
	r.b.T, also = tnum.Meet(r.b.T, b)
	if !ok || !also {
		return relation{}, false
	}
	return r.synced()
}

// holdsNarrow: as holds, of the lowest 32 bits.
func (r relation) holdsNarrow(op int) (relation, bool) {
	n := relation{low(r.a), low(r.b)}
	switch op {
	case api.Jsgt, api.Jsge, api.Jslt, api.Jsle:
		n = relation{extend(n.a), extend(n.b)}
	}
	n, ok := n.holds(op)
	if !ok {
		return relation{}, false
	}
	a, ok := withLow(r.a, low(n.a))
	b, also := withLow(r.b, low(n.b))
	return relation{a, b}, ok && also
}

// withLow: s, of whose lowest 32 bits something is known.
func withLow(s, lows api.Scalar) (api.Scalar, bool) {
	if s.Umax <= lowest32 {
		return Meet(s, lows)
	}
	t, ok := tnum.Meet(s.T, api.Tnum{Value: lows.T.Value, Mask: lows.T.Mask | ^uint64(lowest32)})
	if !ok {
		return api.Scalar{}, false
	}
	s.T = t
	return Sync(s)
}
