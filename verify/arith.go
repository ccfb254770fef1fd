package verify

import (
	"barbican/api"
	"barbican/op"
	"barbican/scalar"
)

// farOff: how far a slice may begin behind its region's beginning; it counts where a pointer is moved.
const farOff = 4096

// arithmetic: what an operation of the classes Alu and Alu64 makes of d and o.
func (w *walker) arithmetic(x api.Insn, d, o value) value {
	code, wide := int(x.Op>>4), x.Op&7 == api.Alu64
	if code != api.Mov && isNothing(d) {
		w.refuse(api.ErrVerifyReg)
	}
	if code == api.End {
		return w.turn(x, d)
	}
	if isNothing(o) {
		w.refuse(api.ErrVerifyReg)
	}
	b, ok := o.(number)
	switch {
	case code == api.Mov && !ok && wide:
		return o
	case code == api.Mov && ok:
		return number{scalar.Do(code, wide, b.n, b.n)}
	}
	a, also := d.(number)
	switch {
	case ok && also:
		return number{scalar.Do(code, wide, a.n, b.n)}
	case wide && ok && (code == api.Add || code == api.Sub):
		return w.moved(d, code, b.n)
	case wide && also && code == api.Add:
		return w.moved(o, code, a.n)
	}
	w.refuse(api.ErrVerifyPtr)
	return nil
}

// turn: d with its bytes in the order that End asks for.
func (w *walker) turn(x api.Insn, d value) value {
	n, ok := d.(number)
	if !ok {
		w.refuse(api.ErrVerifyPtr)
	}
	return number{scalar.Swap(int(x.Imm), x.Op&op.ByRegister != 0, x.Op&7 == api.Alu64, n.n)}
}

// moved: the pointer p, to which n is added, or from which it is taken.
func (w *walker) moved(p value, code int, n api.Scalar) value {
	switch x := p.(type) {
	case stackPtr:
		x.off = w.sum(code, x.off, n, api.MaxOff)
		return x
	case ctxPtr:
		x.off = w.sum(code, x.off, n, api.MaxOff)
		return x
	case memPtr:
		most := int64(api.MaxOff)
		if x.origin == aSlice {
			most -= farOff
		}
		x.off = w.sum(code, x.off, n, most)
		return x
	}
	w.refuse(api.ErrVerifyPtr)
	return nil
}

// sum: an offset and what it is moved by, neither of which, nor what comes of it, may be too far off.
func (w *walker) sum(code int, off, n api.Scalar, most int64) api.Scalar {
	if n.Smin < -most || n.Smax > most {
		w.refuse(api.ErrVerifyPtr)
	}
	off = scalar.Do(code, true, off, n)
	if off.Smin < -most || off.Smax > most {
		w.refuse(api.ErrVerifyPtr)
	}
	return off
}
