package scalar

import (
	"math"
	"math/bits"

	"barbican/alu"
	"barbican/api"
	"barbican/tnum"
)

const lowest32 = math.MaxUint32

// Do: see P7.3.
func Do(op int, wide bool, a, b api.Scalar) api.Scalar {
	table := doings()
	if op < 0 || op >= len(table) {
		return Unknown()
	}
	a, b = known(a), known(b)
	switch {
	case op == api.Mov && wide:
		return b
	case op == api.Mov:
		return low(b)
	case isConst(a) && (isConst(b) || op == api.Neg):
		n, _ := alu.Do(op, wide, a.Umin, b.Umin)
		return Const(n)
	case wide:
		return table[op](operands{exact(a), exact(b), 64})
	}
	return low(table[op](operands{exact(low(a)), exact(low(b)), 32}))
}

// operands: the two sides of an operation; narrow ones have no upper bits set, and of their result the lowest 32 bits count.
type operands struct {
	a, b  api.Scalar
	width int
}

// doings: what becomes of operands, by the operation's code. (Mov has its own rule.)
func doings() [api.Arsh + 1]func(operands) api.Scalar {
	return [...]func(operands) api.Scalar{
		api.Add: operands.add, api.Sub: operands.sub, api.Mul: operands.mul, api.Div: operands.div, api.Or: operands.or,
		api.And: operands.and, api.Lsh: operands.lsh, api.Rsh: operands.rsh, api.Neg: operands.neg, api.Mod: operands.mod,
		api.Xor: operands.xor, api.Mov: operands.mov, api.Arsh: operands.arsh,
	}
}

func (o operands) add() api.Scalar {
	s := ofBits(tnum.Add(o.a.T, o.b.T))
	least, over := bits.Add64(o.a.Umin, o.b.Umin, 0)
	most, overToo := bits.Add64(o.a.Umax, o.b.Umax, 0)
	if over == overToo {
		s.Umin, s.Umax = least, most
	}
	smin, ok := addSigned(o.a.Smin, o.b.Smin)
	smax, also := addSigned(o.a.Smax, o.b.Smax)
	if ok && also {
		s.Smin, s.Smax = smin, smax
	}
	return settle(s)
}

// addSigned: the sum, and whether it stays within 64 bits.
func addSigned(a, b int64) (int64, bool) {
	sum := a + b
	return sum, (a < 0) != (b < 0) || (sum < 0) == (a < 0)
}

func (o operands) sub() api.Scalar {
	s := ofBits(tnum.Sub(o.a.T, o.b.T))
	least, under := bits.Sub64(o.a.Umin, o.b.Umax, 0)
	most, underToo := bits.Sub64(o.a.Umax, o.b.Umin, 0)
	if under == underToo {
		s.Umin, s.Umax = least, most
	}
	smin, ok := subSigned(o.a.Smin, o.b.Smax)
	smax, also := subSigned(o.a.Smax, o.b.Smin)
	if ok && also {
		s.Smin, s.Smax = smin, smax
	}
	return settle(s)
}

// subSigned: the difference, and whether it stays within 64 bits.
func subSigned(a, b int64) (int64, bool) {
	left := a - b
	return left, (a < 0) == (b < 0) || (left < 0) == (a < 0)
}

func (o operands) neg() api.Scalar { return operands{Const(0), o.a, o.width}.sub() }

func (o operands) mov() api.Scalar { return o.b }

func (o operands) mul() api.Scalar {
	s := ofBits(tnum.Mul(o.a.T, o.b.T))
	if over, most := bits.Mul64(o.a.Umax, o.b.Umax); over == 0 {
		s.Umin, s.Umax = o.a.Umin*o.b.Umin, most
	}
	return settle(s)
}

func (o operands) div() api.Scalar {
	if o.b.Umin == 0 {
		return Between(0, o.a.Umax)
	}
	return Between(o.a.Umin/o.b.Umax, o.a.Umax/o.b.Umin)
}

func (o operands) mod() api.Scalar {
	divisor := o.b.Umin
	switch {
	case o.b.Umax == 0 || o.a.Umax < divisor:
		return o.a
	case divisor == 0:
		return Between(0, o.a.Umax)
	case isConst(o.b) && divisor&(divisor-1) == 0:
		return operands{o.a, Const(divisor - 1), o.width}.and()
	}
	return Between(0, min(o.a.Umax, o.b.Umax-1))
}

func (o operands) or() api.Scalar {
	s := ofBits(tnum.Or(o.a.T, o.b.T))
	s.Umin = max(o.a.Umin, o.b.Umin)
	return settle(s)
}

func (o operands) and() api.Scalar {
	s := ofBits(tnum.And(o.a.T, o.b.T))
	s.Umax = min(o.a.Umax, o.b.Umax)
	return settle(s)
}

func (o operands) xor() api.Scalar { return settle(ofBits(tnum.Xor(o.a.T, o.b.T))) }

func (o operands) lsh() api.Scalar { return o.shift(o.a, shiftLeft) }

func (o operands) rsh() api.Scalar { return o.shift(o.a, shiftRight) }

func (o operands) arsh() api.Scalar {
	if o.width == 64 {
		return o.shift(o.a, shiftSigned)
	}
	return o.shift(extend(o.a), shiftSigned)
}

// shift: what by makes of a for all numbers of bits that b tells.
func (o operands) shift(a api.Scalar, by func(a api.Scalar, n int) api.Scalar) api.Scalar {
	mask := uint64(o.width - 1)
	counts := tnum.And(o.b.T, tnum.Const(mask))
	var s api.Scalar
	first := true
	for n := range o.width {
		if !tnum.Has(counts, uint64(n)) || o.b.Umax <= mask && (uint64(n) < o.b.Umin || uint64(n) > o.b.Umax) {
			continue
		}
		one := by(a, n)
		if !first {
			one = hull(s, one)
		}
		s, first = one, false
	}
	if first {
		return Unknown()
	}
	return settle(s)
}

func shiftLeft(a api.Scalar, n int) api.Scalar {
	s := ofBits(tnum.Lsh(a.T, n))
	if a.Umax <= math.MaxUint64>>n {
		s.Umin, s.Umax = a.Umin<<n, a.Umax<<n
	}
	return s
}

func shiftRight(a api.Scalar, n int) api.Scalar {
	s := ofBits(tnum.Rsh(a.T, n))
	s.Umin, s.Umax = a.Umin>>n, a.Umax>>n
	return s
}

func shiftSigned(a api.Scalar, n int) api.Scalar {
	s := ofBits(tnum.Arsh(a.T, n, true))
	s.Smin, s.Smax = a.Smin>>n, a.Smax>>n
	return s
}

// low: the lowest 32 bits of s's numbers.
func low(s api.Scalar) api.Scalar { return lowest(s, 32) }

// lowest: the lowest so many bits, fewer than 64, of s's numbers.
func lowest(s api.Scalar, width int) api.Scalar {
	mask := uint64(1)<<width - 1
	if s.Umax <= mask {
		return s
	}
	l := ofBits(tnum.And(s.T, tnum.Const(mask)))
	if s.Umin>>width == s.Umax>>width {
		l.Umin, l.Umax = s.Umin&mask, s.Umax&mask
	}
	return settle(l)
}

// extend: numbers of 32 bits with their sign's bit in all upper bits.
func extend(s api.Scalar) api.Scalar {
	e := ofBits(tnum.Arsh(tnum.Lsh(s.T, 32), 32, true))
	e.Smin, e.Smax = math.MinInt32, math.MaxInt32
	if s.Umin>>31 == s.Umax>>31 {
		e.Smin, e.Smax = int64(int32(s.Umin)), int64(int32(s.Umax))
	}
	return settle(e)
}

// Swap: see P7.3.
func Swap(to int, big, turn bool, a api.Scalar) api.Scalar {
	a = known(a)
	turned := big || turn
	switch {
	case to != 16 && to != 32 && to != 64:
		return Unknown()
	case turned:
		value, _ := alu.Turn(to, a.T.Value)
		mask, _ := alu.Turn(to, a.T.Mask)
		return settle(ofBits(api.Tnum{Value: value, Mask: mask}))
	case to == 64:
		return a
	}
	return lowest(a, to)
}
