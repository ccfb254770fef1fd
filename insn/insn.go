// Package insn: instructions: slots of eight bytes, what is well formed, where subprograms begin: see doc/01-insn.md.
package insn

import (
	"barbican/api"
)

const (
	slotSize   = 8
	wideOp     = 0x18
	jumpOp     = api.Jmp | api.Ja<<4
	callOp     = api.Jmp | api.Call<<4
	exitOp     = api.Jmp | api.Exit<<4
	byRegister = 0x08 // the second operand is a register
	lastReg    = 10   // its stack pointer: read, never written
	lastHelper = 28
)

// What the Src of a wide load tells.
const (
	loadsNumber   = 0
	loadsMap      = 1
	loadsFunction = 4
)

// What the Src of a call tells.
const (
	callsHelper = 0
	callsSub    = 1
)

// Encode: see P1.1.
func Encode(l []api.Insn) []byte {
	b := make([]byte, 0, len(l)*slotSize)
	for _, x := range l {
		off, imm := uint16(x.Off), uint32(x.Imm)
		b = append(b, x.Op, x.Src<<4|x.Dst&15, byte(off), byte(off>>8))
		b = append(b, byte(imm), byte(imm>>8), byte(imm>>16), byte(imm>>24))
	}
	return b
}

// Decode: see P1.1.
func Decode(b []byte) ([]api.Insn, api.Errno) {
	if len(b)%slotSize != 0 {
		return nil, api.ErrInsnLong
	}
	l := make([]api.Insn, len(b)/slotSize)
	for i := range l {
		l[i] = decodeSlot([slotSize]byte(b[i*slotSize:]))
	}
	return l, api.OK
}

func decodeSlot(b [slotSize]byte) api.Insn {
	off := uint16(b[2]) | uint16(b[3])<<8
	imm := uint32(b[4]) | uint32(b[5])<<8 | uint32(b[6])<<16 | uint32(b[7])<<24
	return api.Insn{Op: b[0], Dst: b[1] & 15, Src: b[1] >> 4, Off: int16(off), Imm: int32(imm)}
}

// Check: see P1.3.
func Check(l []api.Insn) (int, api.Errno) {
	parts, at, e := Subs(l)
	if e != api.OK {
		return at, e
	}
	for _, p := range parts {
		if at, ok := jumpsStay(l, p); !ok {
			return at, api.ErrInsnJump
		}
	}
	return 0, api.OK
}

// Subs: see P1.4.
func Subs(l []api.Insn) ([]api.Part, int, api.Errno) {
	if len(l) == 0 || len(l) > api.MaxInsns {
		return nil, 0, api.ErrInsnMany
	}
	for at := 0; at < len(l); at += width(l[at]) {
		if e := checkSlot(l, at); e != api.OK {
			return nil, at, e
		}
	}
	parts := split(l)
	if len(parts) > api.MaxSubs {
		return nil, 0, api.ErrInsnSubs
	}
	for _, p := range parts {
		if at, ok := ends(l, p); !ok {
			return nil, at, api.ErrInsnEnd
		}
	}
	return parts, 0, api.OK
}

// Wide: see P1.5.
func Wide(l []api.Insn, at int) (uint64, bool) {
	if !operation(l, at) || at+1 == len(l) {
		return 0, false
	}
	x := l[at]
	if x.Op != wideOp || x.Src != loadsNumber {
		return 0, false
	}
	return uint64(uint32(x.Imm)) | uint64(uint32(l[at+1].Imm))<<32, true
}

// Target: see P1.5.
func Target(l []api.Insn, at int) (int, bool) {
	if !operation(l, at) {
		return 0, false
	}
	x := l[at]
	to := at + 1
	switch {
	case names(x):
		to += int(x.Imm)
	case jumps(x):
		to += int(x.Off)
	default:
		return 0, false
	}
	if to < 0 || to >= len(l) {
		return 0, false
	}
	return to, true
}

// width: how many slots the operation that begins with x takes.
func width(x api.Insn) int {
	if x.Op == wideOp {
		return 2
	}
	return 1
}

// isSecond: whether the slot at is a second slot. In a row of slots with the wide load's Op first and second ones take turns, so the row in front of at decides.
func isSecond(l []api.Insn, at int) bool {
	from := at
	for from > 0 && l[from-1].Op == wideOp {
		from--
	}
	return (at-from)%2 == 1
}

// operation: whether a known operation begins at at.
func operation(l []api.Insn, at int) bool {
	return at >= 0 && at < len(l) && known(l[at]) && !isSecond(l, at)
}

// known: see P1.2; the second slot aside.
func known(x api.Insn) bool {
	switch x.Op {
	case wideOp:
		return x.Off == 0 && (x.Src == loadsNumber || x.Src == loadsMap || x.Src == loadsFunction)
	case 0x62, 0x6A, 0x72, 0x7A:
		return x.Src == 0
	case 0x61, 0x69, 0x71, 0x79:
		fallthrough
	case 0x63, 0x6B, 0x73, 0x7B:
		return x.Imm == 0
	case jumpOp:
		return x == api.Insn{Op: jumpOp, Off: x.Off}
	case callOp:
		return x.Dst == 0 && x.Off == 0 && (x.Src == callsHelper || x.Src == callsSub)
	case exitOp:
		return x == api.Insn{Op: exitOp}
	}
	switch x.Op & 7 {
	case api.Alu, api.Alu64:
		return knownAlu(x)
	case api.Jmp:
		fallthrough
	case api.Jmp32:
		return compares(x) && plainOperand(x)
	}
	return false
}

func knownAlu(x api.Insn) bool {
	reg := x.Op&byRegister != 0
	switch x.Op >> 4 {
	case api.Neg:
		return !reg && x.Src == 0 && x.Off == 0 && x.Imm == 0
	case api.End:
		if reg && x.Op&7 == api.Alu64 {
			return false
		}
		return x.Src == 0 && x.Off == 0 && (x.Imm == 16 || x.Imm == 32 || x.Imm == 64)
	case api.Add, api.Sub, api.Mul, api.Div, api.Or, api.And, api.Lsh, api.Rsh:
		fallthrough
	case api.Mod, api.Xor, api.Mov, api.Arsh:
		return x.Off == 0 && plainOperand(x)
	}
	return false
}

// plainOperand: whether the operand that x hasn't is 0.
func plainOperand(x api.Insn) bool {
	if x.Op&byRegister != 0 {
		return x.Imm == 0
	}
	return x.Src == 0
}

// compares: whether x's Op is a comparison's.
func compares(x api.Insn) bool {
	switch x.Op & 7 {
	case api.Jmp, api.Jmp32:
	default:
		return false
	}
	switch x.Op >> 4 {
	case api.Jeq, api.Jgt, api.Jge, api.Jset, api.Jne, api.Jsgt, api.Jsge:
		fallthrough
	case api.Jlt, api.Jle, api.Jslt, api.Jsle:
		return true
	}
	return false
}

// jumps: whether x, a known operation, goes elsewhere within its subprogram.
func jumps(x api.Insn) bool { return x.Op == jumpOp || compares(x) }

// names: whether x, a known operation, names a subprogram's first slot.
func names(x api.Insn) bool {
	switch x.Op {
	case wideOp:
		return x.Src == loadsFunction
	case callOp:
		return x.Src == callsSub
	}
	return false
}

// writes: whether x, a known operation, writes Dst.
func writes(x api.Insn) bool {
	switch x.Op & 7 {
	case api.Ld, api.Ldx:
		fallthrough
	case api.Alu, api.Alu64:
		return true
	}
	return false
}

// checkSlot: the error of the operation at at by itself.
func checkSlot(l []api.Insn, at int) api.Errno {
	x := l[at]
	switch {
	case !known(x):
		return api.ErrInsnOp
	case x.Dst > lastReg || x.Src > lastReg || x.Dst == lastReg && writes(x):
		return api.ErrInsnReg
	case x.Op == wideOp && !rightSecond(l, at):
		return api.ErrInsnWide
	case x.Op == callOp && x.Src == callsHelper && (x.Imm < 1 || x.Imm > lastHelper):
		return api.ErrInsnCall
	case names(x) && !callable(l, at+1+int(x.Imm)):
		return api.ErrInsnCall
	}
	return api.OK
}

// rightSecond: whether the wide load at at has a second slot as P1.2 has it.
func rightSecond(l []api.Insn, at int) bool {
	if at+1 >= len(l) {
		return false
	}
	want := api.Insn{}
	if l[at].Src == loadsNumber {
		want.Imm = l[at+1].Imm
	}
	return l[at+1] == want
}

// callable: whether a subprogram other than the first one may begin at to.
func callable(l []api.Insn, to int) bool {
	return to > 0 && to < len(l) && !isSecond(l, to)
}

// split: all subprograms of l, each of whose operations is right by itself.
func split(l []api.Insn) []api.Part {
	var begins [api.MaxInsns]bool
	begins[0] = true
	for at := 0; at < len(l); at += width(l[at]) {
		if names(l[at]) {
			begins[at+1+int(l[at].Imm)] = true
		}
	}
	var parts []api.Part
	for at := range len(l) {
		if begins[at] {
			parts = append(parts, api.Part{From: at})
		}
		parts[len(parts)-1].To = at + 1
	}
	return parts
}

// ends: the first slot of p's last operation, and whether nothing goes on beyond it.
func ends(l []api.Insn, p api.Part) (int, bool) {
	last := p.To - 1
	if isSecond(l, last) {
		last--
	}
	return last, l[last].Op == exitOp || l[last].Op == jumpOp
}

// jumpsStay: the first slot of p that jumps out of it, or to a second slot; true if none does.
func jumpsStay(l []api.Insn, p api.Part) (int, bool) {
	for at := p.From; at < p.To; at += width(l[at]) {
		if !jumps(l[at]) {
			continue
		}
		to := at + 1 + int(l[at].Off)
		if to < p.From || to >= p.To || isSecond(l, to) {
			return at, false
		}
	}
	return 0, true
}
