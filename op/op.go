// Package op: what the bits of a slot say, for all that looks at slots. It is no layer: it tells nothing that doc/01-insn.md doesn't say of an Op.
package op

import (
	"barbican/api"
)

// Operations that are told apart by their whole Op.
const (
	Wide = 0x18
	Jump = api.Jmp | api.Ja<<4
	Call = api.Jmp | api.Call<<4
	Exit = api.Jmp | api.Exit<<4
)

// ByRegister: the bit of an Op that says that the second operand is a register.
const ByRegister = 0x08

// What the Src of a wide load tells.
const (
	LoadsNumber   = 0
	LoadsMap      = 1
	LoadsFunction = 4
)

// What the Src of a call tells.
const (
	CallsHelper = 0
	CallsSub    = 1
)

// Width: how many slots the operation that begins with x takes.
func Width(x api.Insn) int {
	if x.Op == Wide {
		return 2
	}
	return 1
}

// Size: the bytes that x, a load or a store, moves.
func Size(x api.Insn) int {
	switch x.Op & 0x18 {
	case 0x00:
		return 4
	case 0x08:
		return 2
	case 0x10:
		return 1
	}
	return 8
}

// Jumps: whether x, a known operation, is a Ja or a comparison.
func Jumps(x api.Insn) bool {
	switch x.Op & 7 {
	case api.Jmp:
		return x.Op != Call && x.Op != Exit
	case api.Jmp32:
		return true
	}
	return false
}

// IsSecond: whether the slot at is a second slot. In a row of slots with the wide load's Op first and second ones take turns, so the row in front of at decides.
func IsSecond(l []api.Insn, at int) bool {
	from := at
	for from > 0 && l[from-1].Op == Wide {
		from--
	}
	return (at-from)%2 == 1
}

// RightSecond: whether the wide load at at has a second slot as it must be.
func RightSecond(l []api.Insn, at int) bool {
	if at+1 >= len(l) {
		return false
	}
	want := api.Insn{}
	if l[at].Src == LoadsNumber {
		want.Imm = l[at+1].Imm
	}
	return l[at+1] == want
}
