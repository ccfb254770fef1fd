// Package insn: instructions: slots of eight bytes, what is well formed, where subprograms begin: see doc/01-insn.md.
package insn

import (
	"barbican/api"
	"barbican/op"
)

const (
	slotSize   = 8
	lastReg    = 10 // its stack pointer: read, never written
	lastHelper = 28
)

// Encode: see P1.1.
func Encode(l []api.Insn) []byte {
	b := make([]byte, 0, len(l)*slotSize)
	for _, x := range l {
		off, imm := uint16(x.Off), uint32(x.Imm)
		b = append(b, x.Op, x.Src<<4|x.Dst&15, byte(off), byte(off>>8))
		b = append(b, byte(imm), byte(imm>>8), byte(imm>>16), byte(imm>>24))
	}
	return b
}

// Decode: see P1.1.
func Decode(b []byte) ([]api.Insn, api.Errno) {
	if len(b)%slotSize != 0 {
		return nil, api.ErrInsnLong
	}
	l := make([]api.Insn, len(b)/slotSize)
	for i := range l {
		l[i] = decodeSlot([slotSize]byte(b[i*slotSize:]))
	}
	return l, api.OK
}

func decodeSlot(b [slotSize]byte) api.Insn {
	off := uint16(b[2]) | uint16(b[3])<<8
	imm := uint32(b[4]) | uint32(b[5])<<8 | uint32(b[6])<<16 | uint32(b[7])<<24
	return api.Insn{Op: b[0], Dst: b[1] & 15, Src: b[1] >> 4, Off: int16(off), Imm: int32(imm)}
}

// Check: see P1.3.
func Check(l []api.Insn) (int, api.Errno) {
	parts, at, e := Subs(l)
	if e != api.OK {
		return at, e
	}
	for _, p := range parts {
		if at, ok := jumpsStay(l, p); !ok {
			return at, api.ErrInsnJump
		}
	}
	return 0, api.OK
}

// Subs: see P1.4.
func Subs(l []api.Insn) ([]api.Part, int, api.Errno) {
	if len(l) == 0 || len(l) > api.MaxInsns {
		return nil, 0, api.ErrInsnMany
	}
	for at := 0; at < len(l); at += op.Width(l[at]) {
		if e := checkSlot(l, at); e != api.OK {
			return nil, at, e
		}
	}
	parts := split(l)
	if len(parts) > api.MaxSubs {
		return nil, 0, api.ErrInsnSubs
	}
	for _, p := range parts {
		if at, ok := ends(l, p); !ok {
			return nil, at, api.ErrInsnEnd
		}
	}
	return parts, 0, api.OK
}

// Wide: see P1.5.
func Wide(l []api.Insn, at int) (uint64, bool) {
	if !operation(l, at) || at+1 == len(l) {
		return 0, false
	}
	x := l[at]
	if x.Op != op.Wide || x.Src != op.LoadsNumber {
		return 0, false
	}
	return uint64(uint32(x.Imm)) | uint64(uint32(l[at+1].Imm))<<32, true
}

// Target: see P1.5.
func Target(l []api.Insn, at int) (int, bool) {
	if !operation(l, at) {
		return 0, false
	}
	x := l[at]
	to := at + 1
	switch {
	case names(x):
		to += int(x.Imm)
	case op.Jumps(x):
		to += int(x.Off)
	default:
		return 0, false
	}
	if to < 0 || to >= len(l) {
		return 0, false
	}
	return to, true
}

// operation: whether a known operation begins at at.
func operation(l []api.Insn, at int) bool {
	return at >= 0 && at < len(l) && known(l[at]) && !op.IsSecond(l, at)
}

// known: see P1.2; the second slot aside.
func known(x api.Insn) bool {
	switch x.Op {
	case op.Wide:
		return x.Off == 0 && (x.Src == op.LoadsNumber || x.Src == op.LoadsMap || x.Src == op.LoadsFunction)
	case 0x62, 0x6A, 0x72, 0x7A:
		return x.Src == 0
	case 0x61, 0x69, 0x71, 0x79:
		fallthrough
	case 0x63, 0x6B, 0x73, 0x7B:
		return x.Imm == 0
	case op.Jump:
		return x == api.Insn{Op: op.Jump, Off: x.Off}
	case op.Call:
		return x.Dst == 0 && x.Off == 0 && (x.Src == op.CallsHelper || x.Src == op.CallsSub)
	case op.Exit:
		return x == api.Insn{Op: op.Exit}
	}
	switch x.Op & 7 {
	case api.Alu, api.Alu64:
		return knownAlu(x)
	case api.Jmp:
		fallthrough
	case api.Jmp32:
		return compares(x) && plainOperand(x)
	}
	return false
}

func knownAlu(x api.Insn) bool {
	reg := x.Op&op.ByRegister != 0
	switch x.Op >> 4 {
	case api.Neg:
		return !reg && x.Src == 0 && x.Off == 0 && x.Imm == 0
	case api.End:
		if reg && x.Op&7 == api.Alu64 {
			return false
		}
		return x.Src == 0 && x.Off == 0 && (x.Imm == 16 || x.Imm == 32 || x.Imm == 64)
	case api.Add, api.Sub, api.Mul, api.Div, api.Or, api.And, api.Lsh, api.Rsh:
		fallthrough
	case api.Mod, api.Xor, api.Mov, api.Arsh:
		return x.Off == 0 && plainOperand(x)
	}
	return false
}

// plainOperand: whether the operand that x hasn't is 0.
func plainOperand(x api.Insn) bool {
	if x.Op&op.ByRegister != 0 {
		return x.Imm == 0
	}
	return x.Src == 0
}

// compares: whether x's Op is a comparison's.
func compares(x api.Insn) bool {
	switch x.Op & 7 {
	case api.Jmp, api.Jmp32:
	default:
		return false
	}
	switch x.Op >> 4 {
	case api.Jeq, api.Jgt, api.Jge, api.Jset, api.Jne, api.Jsgt, api.Jsge:
		fallthrough
	case api.Jlt, api.Jle, api.Jslt, api.Jsle:
		return true
	}
	return false
}

// names: whether x, a known operation, names a subprogram's first slot.
func names(x api.Insn) bool {
	switch x.Op {
	case op.Wide:
		return x.Src == op.LoadsFunction
	case op.Call:
		return x.Src == op.CallsSub
	}
	return false
}

// writes: whether x, a known operation, writes Dst.
func writes(x api.Insn) bool {
	switch x.Op & 7 {
	case api.Ld, api.Ldx:
		fallthrough
	case api.Alu, api.Alu64:
		return true
	}
	return false
}

// checkSlot: the error of the operation at at by itself.
func checkSlot(l []api.Insn, at int) api.Errno {
	x := l[at]
	switch {
	case !known(x):
		return api.ErrInsnOp
	case x.Dst > lastReg || x.Src > lastReg || x.Dst == lastReg && writes(x):
		return api.ErrInsnReg
	case x.Op == op.Wide && !op.RightSecond(l, at):
		return api.ErrInsnWide
	case x.Op == op.Call && x.Src == op.CallsHelper && (x.Imm < 1 || x.Imm > lastHelper):
		return api.ErrInsnCall
	case names(x) && !callable(l, at+1+int(x.Imm)):
		return api.ErrInsnCall
	}
	return api.OK
}

// callable: whether a subprogram other than the first one may begin at to.
func callable(l []api.Insn, to int) bool {
	return to > 0 && to < len(l) && !op.IsSecond(l, to)
}

// split: all subprograms of l, each of whose operations is right by itself.
func split(l []api.Insn) []api.Part {
	var begins [api.MaxInsns]bool
	begins[0] = true
	for at := 0; at < len(l); at += op.Width(l[at]) {
		if names(l[at]) {
			begins[at+1+int(l[at].Imm)] = true
		}
	}
	var parts []api.Part
	for at := range len(l) {
		if begins[at] {
			parts = append(parts, api.Part{From: at})
		}
		parts[len(parts)-1].To = at + 1
	}
	return parts
}

// ends: the first slot of p's last operation, and whether nothing goes on beyond it.
func ends(l []api.Insn, p api.Part) (int, bool) {
	last := p.To - 1
	if op.IsSecond(l, last) {
		last--
	}
	return last, l[last].Op == op.Exit || l[last].Op == op.Jump
}

// jumpsStay: the first slot of p that jumps out of it, or to a second slot; true if none does.
func jumpsStay(l []api.Insn, p api.Part) (int, bool) {
	for at := p.From; at < p.To; at += op.Width(l[at]) {
		if !op.Jumps(l[at]) {
			continue
		}
		to := at + 1 + int(l[at].Off)
		if to < p.From || to >= p.To || op.IsSecond(l, to) {
			return at, false
		}
	}
	return 0, true
}
