package verify

import (
	"barbican/api"
	"barbican/scalar"
)

const maxSize = 4096 // bytes that a helper takes at once

// args: a helper's arguments.
type args [5]value

// num: the argument i, which is a number.
func (a args) num(i int) api.Scalar { return a[i].(number).n }

// mapOf: the number of the map that the argument i is.
func (a args) mapOf(i int) int { return a[i].(mapPtr).i }

// help: the call of the helper n: the states that may come of it.
func (w *walker) help(s *state, n int) []*state {
	p := w.protos[n-1]
	a := args(s.top().regs[1:6])
	for i, kind := range p.Args {
		if kind == api.ANone {
			break
		}
		if isNothing(a[i]) {
			w.refuse(api.ErrVerifyReg)
		}
		if !w.rightArg(s, a, i, kind, p.Maps) {
			w.refuse(api.ErrVerifyCall)
		}
	}
	return w.effects[n](w, s, a)
}

// rightArg: whether the argument i is right, by its kind, whatever it may be.
func (w *walker) rightArg(s *state, a args, i, kind, kinds int) bool {
	switch kind {
	case api.ANum, api.ASize:
		_, ok := a[i].(number)
		return ok
	case api.AMap:
		m, ok := a[i].(mapPtr)
		return ok && kinds>>w.maps[m.i].Kind&1 == 1
	case api.AKey:
		return w.readable(s, a[i], 0, w.maps[a.mapOf(0)].Key)
	case api.AValue:
		return w.readable(s, a[i], 0, w.maps[a.mapOf(0)].Value)
	case api.AMem:
		n, ok := size(a[i+1])
		return ok && w.readable(s, a[i], 0, n)
	case api.AOut:
		n, ok := size(a[i+1])
		return ok && w.writable(s, a[i], 0, n)
	case api.ACtx:
		p, ok := a[i].(ctxPtr)
		return ok && isZero(p.off)
	case api.AFunc:
		_, ok := a[i].(funcPtr)
		return ok
	}
	return w.rightHeld(s, a[i], kind)
}

// size: the most that a number of bytes that is told behind a pointer may be, if it is right.
func size(v value) (int, bool) {
	x, ok := v.(number)
	if !ok || x.n.Umin < 1 || x.n.Umax > maxSize {
		return 0, false
	}
	return int(x.n.Umax), true
}

func isZero(n api.Scalar) bool { return n.Umax == 0 }

// rightHeld: as rightArg, of what an invocation holds, or may come to hold.
func (w *walker) rightHeld(s *state, v value, kind int) bool {
	switch kind {
	case api.ACallCtx:
		x, ok := v.(number)
		_, also := v.(stackPtr)
		return also || ok && isZero(x.n)
	case api.ARec:
		x, ok := v.(memPtr)
		return ok && x.origin == aRecord && isZero(x.off)
	case api.ASock:
		_, ok := v.(sockPtr)
		return ok
	case api.ATimer:
		x, ok := v.(memPtr)
		return ok && x.origin == aValue && w.maps[x.i].Timer && isZero(x.off)
	case api.ADynNew, api.AIterNew:
		f, slot, ok := tagPlace(s, v)
		return ok && !isTag(f.stack[slot]) && !isTag(f.stack[slot+1])
	case api.ADyn:
		f, slot, ok := tagPlace(s, v)
		if !ok {
			return false
		}
		d, ok := f.stack[slot].(dyn)
		return ok && !d.dead
	case api.AIter:
		f, slot, ok := tagPlace(s, v)
		if !ok {
			return false
		}
		_, ok = f.stack[slot].(iter)
		return ok
	}
	return false
}

// tagPlace: the frame, and the first of the two slots there, that v points to.
func tagPlace(s *state, v value) (*frame, int, bool) {
	p, ok := v.(stackPtr)
	if !ok {
		return nil, 0, false
	}
	at, ok := place(p, 0, 2*slotSize)
	if !ok || at%slotSize != 0 {
		return nil, 0, false
	}
	return s.frames[p.frame], at / slotSize, true
}

// mark: a tag lies where v, which is right, points to.
func mark(s *state, v, tag value) {
	f, slot, _ := tagPlace(s, v)
	f.stack[slot], f.stack[slot+1] = tag, half{}
}

// unmark: the tag there is one no more.
func unmark(s *state, v value) {
	f, slot, _ := tagPlace(s, v)
	f.stack[slot], f.stack[slot+1] = nothing{}, nothing{}
}

// tagOf: what lies where v, which is right, points to.
func tagOf(s *state, v value) value {
	f, slot, _ := tagPlace(s, v)
	return f.stack[slot]
}

// either: one of some numbers.
func either(l ...int64) value {
	n := scalar.Const(uint64(l[0]))
	for _, x := range l[1:] {
		n = scalar.Join(n, scalar.Const(uint64(x)))
	}
	return number{n}
}
