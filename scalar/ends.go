package scalar

import (
	"math"

	"barbican/api"
	"barbican/tnum"
)

// span: numbers from least to most, without a sign; none, if some is false.
type span struct {
	least, most uint64
	some        bool
}

// exact: s with ends that are numbers of it. An end that no number has would make a sum seem to go beyond the greatest one where none does.
func exact(s api.Scalar) api.Scalar {
	if isConst(s) {
		return s
	}
	low := members(s, max(s.Smin, 0), s.Smax)
	high := members(s, s.Smin, min(s.Smax, -1))
	e := s
	switch {
	case low.some && high.some:
		e.Umin, e.Umax = low.least, high.most
		e.Smin, e.Smax = int64(high.least), int64(low.most)
	case low.some:
		e.Umin, e.Umax = low.least, low.most
		e.Smin, e.Smax = int64(low.least), int64(low.most)
	case high.some:
		e.Umin, e.Umax = high.least, high.most
		e.Smin, e.Smax = int64(high.least), int64(high.most)
	}
	return settle(e)
}

// members: the least and the greatest number of s from least to most, which have the same sign.
func members(s api.Scalar, least, most int64) span {
	if least > most {
		return span{}
	}
	from, to := max(s.Umin, uint64(least)), min(s.Umax, uint64(most))
	a, ok := atLeast(s.T, from)
	b, also := atMost(s.T, to)
	if !ok || !also || a > to || b < from {
		return span{}
	}
	return span{a, b, true}
}

// atMost: the greatest number of t up to n, if there is one.
func atMost(t api.Tnum, n uint64) (uint64, bool) {
	most := tnum.Most(t)
	lower := -1 // the lowest bit, so far, at which a number of t may be less than n, being like it above
	for i := 63; i >= 0; i-- {
		bit := uint64(1) << i
		switch {
		case t.Mask&bit != 0:
			if n&bit != 0 {
				lower = i
			}
		case t.Value&bit < n&bit:
			return n&^(bit<<1-1) | most&(bit-1), true
		case t.Value&bit > n&bit && lower < 0:
			return 0, false
		case t.Value&bit > n&bit:
			bit = 1 << lower
			return n&^(bit<<1-1) | most&(bit-1), true
		}
	}
	return n, true
}

// atLeast: the least number of t from n on, if there is one: atMost of all bits turned.
func atLeast(t api.Tnum, n uint64) (uint64, bool) {
	m, ok := atMost(api.Tnum{Value: ^tnum.Most(t), Mask: t.Mask}, math.MaxUint64-n)
	if !ok {
		return 0, false
	}
	return math.MaxUint64 - m, true
}
