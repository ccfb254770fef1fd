package insn_test

import (
	"reflect"
	"testing"

	"barbican/api"
	"barbican/insn"
)

func slot(op, dst, src uint8, off int16, imm int32) api.Insn {
	return api.Insn{Op: op, Dst: dst, Src: src, Off: off, Imm: imm}
}

var (
	exit   = slot(0x95, 0, 0, 0, 0)
	zero   = slot(0xB7, 0, 0, 0, 0)
	second = api.Insn{}
)

func rows(l ...api.Insn) []api.Insn { return l }

// TestEncode: P1.1.
func TestEncode(t *testing.T) {
	for _, c := range []struct {
		l    []api.Insn
		want []byte
	}{
		{nil, nil},
		{rows(zero, exit), []byte{0xB7, 0, 0, 0, 0, 0, 0, 0, 0x95, 0, 0, 0, 0, 0, 0, 0}},
		{rows(slot(0x7B, 10, 9, -8, 0)), []byte{0x7B, 0x9A, 0xF8, 0xFF, 0, 0, 0, 0}},
		{rows(slot(1, 0xF2, 0xE3, 0x1234, 0x12345678)), []byte{1, 0x32, 0x34, 0x12, 0x78, 0x56, 0x34, 0x12}},
		{rows(slot(1, 0, 0, -32768, -2147483648)), []byte{1, 0, 0, 0x80, 0, 0, 0, 0x80}},
	} {
		if got := insn.Encode(c.l); string(got) != string(c.want) {
			t.Errorf("P1.1: Encode(%v) = %x, want %x", c.l, got, c.want)
		}
	}
}

// TestDecode: P1.1, P1.6.
func TestDecode(t *testing.T) {
	for n := range 40 {
		b := make([]byte, n)
		for i := range b {
			b[i] = byte(i*37 + n)
		}
		l, e := insn.Decode(b)
		if n%8 != 0 {
			if len(l) != 0 || e != api.ErrInsnLong {
				t.Errorf("P1.1: Decode of %d bytes: %v, %d", n, l, e)
			}
			continue
		}
		if e != api.OK || len(l) != n/8 || string(insn.Encode(l)) != string(b) {
			t.Errorf("P1.6: Decode of %d bytes: %v, %d", n, l, e)
		}
	}
	l := rows(slot(0xFF, 15, 14, -1, -1), slot(0, 1, 2, 32767, 2147483647))
	if m, e := insn.Decode(insn.Encode(l)); e != api.OK || !reflect.DeepEqual(m, l) {
		t.Errorf("P1.6: %v, %d", m, e)
	}
}

// knownBy: P1.2 told anew, by ranges of Op.
func knownBy(x api.Insn) bool {
	k, noSrc, noImm, noOff := x.Op&8 == 0, x.Src == 0, x.Imm == 0, x.Off == 0
	operand := k && noSrc || !k && noImm
	code := x.Op >> 4
	switch x.Op {
	case 0x18:
		return noOff && (x.Src == 0 || x.Src == 1 || x.Src == 4)
	case 0x61, 0x69, 0x71, 0x79, 0x63, 0x6B, 0x73, 0x7B:
		return noImm
	case 0x62, 0x6A, 0x72, 0x7A:
		return noSrc
	case 0x05:
		return x.Dst == 0 && noSrc && noImm
	case 0x85:
		return x.Dst == 0 && noOff && x.Src <= 1
	case 0x95:
		return x.Dst == 0 && noSrc && noImm && noOff
	case 0x84, 0x87:
		return noSrc && noOff && noImm
	case 0xD4, 0xDC, 0xD7:
		return noSrc && noOff && (x.Imm == 16 || x.Imm == 32 || x.Imm == 64)
	}
	switch x.Op & 7 {
	case 4, 7:
		return noOff && operand && code <= 12 && code != 8
	case 5, 6:
		return operand && (code >= 1 && code <= 7 || code >= 10 && code <= 13)
	}
	return false
}

// TestKnown: P1.2, P1.3: each Op with each field, as the first slot.
func TestKnown(t *testing.T) {
	for op := range 256 {
		for _, x := range []api.Insn{
			{}, {Dst: 1}, {Src: 1}, {Src: 4}, {Src: 2}, {Off: 1}, {Imm: 1}, {Imm: 16}, {Imm: 32}, {Imm: 64}, {Imm: 63}, {Imm: -1},
			{Dst: 1, Src: 1}, {Src: 1, Imm: 1}, {Dst: 1, Imm: 16}, {Src: 1, Off: -1}, {Dst: 1, Src: 2, Off: 3}, {Off: 1, Imm: 16},
		} {
			x.Op = uint8(op)
			_, e := insn.Check(rows(x))
			if got := e != api.ErrInsnOp; got != knownBy(x) {
				t.Errorf("P1.2: %+v alone: known %v, want %v", x, got, knownBy(x))
			}
		}
	}
}

// TestRegisters: P1.3, ErrInsnReg.
func TestRegisters(t *testing.T) {
	for _, c := range []struct {
		x    api.Insn
		want api.Errno
	}{
		{slot(0xB7, 9, 0, 0, 0), api.OK},
		{slot(0xB7, 10, 0, 0, 0), api.ErrInsnReg},
		{slot(0xB7, 11, 0, 0, 0), api.ErrInsnReg},
		{slot(0xBF, 0, 10, 0, 0), api.OK},
		{slot(0xBF, 0, 11, 0, 0), api.ErrInsnReg},
		{slot(0xB4, 10, 0, 0, 0), api.ErrInsnReg},
		{slot(0x87, 10, 0, 0, 0), api.ErrInsnReg},
		{slot(0x61, 10, 1, 0, 0), api.ErrInsnReg},
		{slot(0x61, 1, 10, 0, 0), api.OK},
		{slot(0x61, 1, 11, 0, 0), api.ErrInsnReg},
		{slot(0x7B, 10, 10, 0, 0), api.OK},
		{slot(0x7A, 10, 0, 0, 0), api.OK},
		{slot(0x7A, 11, 0, 0, 0), api.ErrInsnReg},
		{slot(0x15, 10, 0, 0, 0), api.OK},
		{slot(0x15, 11, 0, 0, 0), api.ErrInsnReg},
		{slot(0x1D, 1, 255, 0, 0), api.ErrInsnReg},
	} {
		if at, e := insn.Check(rows(c.x, exit)); at != 0 || e != c.want {
			t.Errorf("P1.3: %+v: %d, %d, want %d", c.x, at, e, c.want)
		}
	}
	if at, e := insn.Check(rows(zero, slot(0x18, 10, 0, 0, 0), second, exit)); at != 1 || e != api.ErrInsnReg {
		t.Errorf("P1.3: wide load to r10: %d, %d", at, e)
	}
}

// TestWideLoads: P1.3, ErrInsnWide, and second slots.
func TestWideLoads(t *testing.T) {
	for _, c := range []struct {
		l    []api.Insn
		at   int
		want api.Errno
	}{
		{rows(slot(0x18, 1, 0, 0, 5), slot(0, 0, 0, 0, -1), exit), 0, api.OK},
		{rows(slot(0x18, 1, 1, 0, 5), second, exit), 0, api.OK},
		{rows(slot(0x18, 1, 1, 0, 5), slot(0, 0, 0, 0, 1), exit), 0, api.ErrInsnWide},
		{rows(slot(0x18, 1, 4, 0, 1), slot(0, 0, 0, 0, 1), exit), 0, api.ErrInsnWide},
		{rows(slot(0x18, 1, 4, 0, 2), second, exit, exit), 0, api.OK},
		{rows(slot(0x18, 1, 4, 0, 0), second, exit), 0, api.ErrInsnCall},
		{rows(slot(0x18, 1, 0, 0, 5), slot(0, 1, 0, 0, 0), exit), 0, api.ErrInsnWide},
		{rows(slot(0x18, 1, 0, 0, 5), slot(0, 0, 1, 0, 0), exit), 0, api.ErrInsnWide},
		{rows(slot(0x18, 1, 0, 0, 5), slot(0, 0, 0, 1, 0), exit), 0, api.ErrInsnWide},
		{rows(slot(0x18, 1, 0, 0, 5), slot(0x18, 1, 0, 0, 0), second, exit), 0, api.ErrInsnWide},
		{rows(zero, slot(0x18, 1, 0, 0, 5)), 1, api.ErrInsnWide},
		{rows(exit, slot(0, 0, 0, 0, 0)), 1, api.ErrInsnOp},
	} {
		if at, e := insn.Check(c.l); at != c.at || e != c.want {
			t.Errorf("P1.3: %v: %d, %d, want %d, %d", c.l, at, e, c.at, c.want)
		}
	}
}

// TestCalls: P1.3, ErrInsnCall.
func TestCalls(t *testing.T) {
	for _, c := range []struct {
		l    []api.Insn
		at   int
		want api.Errno
	}{
		{rows(slot(0x85, 0, 0, 0, 0), exit), 0, api.ErrInsnCall},
		{rows(slot(0x85, 0, 0, 0, 1), exit), 0, api.OK},
		{rows(slot(0x85, 0, 0, 0, 28), exit), 0, api.OK},
		{rows(slot(0x85, 0, 0, 0, 29), exit), 0, api.ErrInsnCall},
		{rows(slot(0x85, 0, 0, 0, -1), exit), 0, api.ErrInsnCall},
		{rows(zero, slot(0x85, 0, 1, 0, -2), exit), 1, api.ErrInsnCall},
		{rows(zero, exit, slot(0x85, 0, 1, 0, -2), exit), 0, api.OK},
		{rows(slot(0x85, 0, 1, 0, -2147483648), exit), 0, api.ErrInsnCall},
		{rows(slot(0x85, 0, 1, 0, 2147483647), exit), 0, api.ErrInsnCall},
		{rows(slot(0x85, 0, 1, 0, 2), slot(0x18, 1, 0, 0, 0), second, exit, exit), 0, api.OK},
		{rows(slot(0x85, 0, 1, 0, 1), slot(0x18, 1, 0, 0, 0), second, exit), 0, api.ErrInsnCall},
		{rows(slot(0x85, 0, 1, 0, 2), exit, exit), 0, api.ErrInsnCall},
		{rows(slot(0x85, 0, 1, 0, 11), slot(0xB7, 11, 0, 0, 0), exit), 0, api.ErrInsnCall},
		{rows(slot(0xB7, 11, 0, 0, 0), slot(0x85, 0, 1, 0, 11), exit), 0, api.ErrInsnReg},
	} {
		want := c.want
		at, e := insn.Check(c.l)
		if c.want == api.OK && e == api.ErrInsnEnd {
			e = api.OK // what is called begins a subprogram: that is TestEnds' business
			at = 0
		}
		if at != c.at || e != want {
			t.Errorf("P1.3: %v: %d, %d, want %d, %d", c.l, at, e, c.at, want)
		}
	}
}

// TestEnds: P1.4, ErrInsnEnd.
func TestEnds(t *testing.T) {
	for _, c := range []struct {
		l    []api.Insn
		at   int
		want api.Errno
	}{
		{rows(exit), 0, api.OK},
		{rows(zero), 0, api.ErrInsnEnd},
		{rows(zero, slot(0x05, 0, 0, -2, 0)), 0, api.OK},
		{rows(zero, slot(0x15, 0, 0, -2, 0)), 1, api.ErrInsnEnd},
		{rows(zero, slot(0x18, 1, 0, 0, 1), second), 1, api.ErrInsnEnd},
		{rows(slot(0x85, 0, 1, 0, 0), exit), 0, api.ErrInsnEnd},
		{rows(slot(0x85, 0, 1, 0, 1), exit, zero), 2, api.ErrInsnEnd},
		{rows(slot(0x85, 0, 1, 0, 1), zero, zero, exit), 1, api.ErrInsnEnd},
		// The end comes ahead of jumps.
		{rows(slot(0x05, 0, 0, 9, 0), zero), 1, api.ErrInsnEnd},
	} {
		at, e := insn.Check(c.l)
		if at != c.at || e != c.want {
			t.Errorf("P1.4: %v: %d, %d, want %d, %d", c.l, at, e, c.at, c.want)
		}
		parts, from, f := insn.Subs(c.l)
		if from != c.at || f != c.want || c.want != api.OK && len(parts) != 0 {
			t.Errorf("P1.4: Subs(%v): %v, %d, %d", c.l, parts, from, f)
		}
	}
}

// TestJumps: P1.3, ErrInsnJump.
func TestJumps(t *testing.T) {
	for _, c := range []struct {
		l    []api.Insn
		at   int
		want api.Errno
	}{
		{rows(slot(0x05, 0, 0, -1, 0)), 0, api.OK},
		{rows(slot(0x05, 0, 0, 0, 0)), 0, api.ErrInsnJump},
		{rows(slot(0x05, 0, 0, -2, 0)), 0, api.ErrInsnJump},
		{rows(zero, slot(0x15, 0, 0, 1, 0), exit), 1, api.ErrInsnJump},
		{rows(zero, slot(0x16, 0, 0, 1, 0), exit), 1, api.ErrInsnJump},
		{rows(zero, slot(0x1E, 0, 0, 0, 0), exit), 0, api.OK},
		{rows(slot(0x15, 0, 0, 1, 0), slot(0x18, 1, 0, 0, 0), second, exit), 0, api.ErrInsnJump},
		{rows(slot(0x15, 0, 0, 2, 0), slot(0x18, 1, 0, 0, 0), second, exit), 0, api.OK},
		// Into another subprogram, forward and back.
		{rows(slot(0x85, 0, 1, 0, 2), slot(0x15, 0, 0, 1, 0), exit, exit), 1, api.ErrInsnJump},
		{rows(slot(0x85, 0, 1, 0, 1), exit, slot(0x05, 0, 0, -2, 0)), 2, api.ErrInsnJump},
	} {
		if at, e := insn.Check(c.l); at != c.at || e != c.want {
			t.Errorf("P1.3: %v: %d, %d, want %d, %d", c.l, at, e, c.at, c.want)
		}
		if parts, at, e := insn.Subs(c.l); len(parts) == 0 || at != 0 || e != api.OK {
			t.Errorf("P1.4: Subs(%v) tells of a jump: %d, %d", c.l, at, e)
		}
	}
}

// TestMany: P1.3, P1.4 at the limits.
func TestMany(t *testing.T) {
	long := make([]api.Insn, api.MaxInsns)
	for i := range long {
		long[i] = zero
	}
	long[len(long)-1] = exit
	if at, e := insn.Check(long); at != 0 || e != api.OK {
		t.Errorf("P1.3: MaxInsns: %d, %d", at, e)
	}
	if at, e := insn.Check(append(long, exit)); at != 0 || e != api.ErrInsnMany {
		t.Errorf("P1.3: one more: %d, %d", at, e)
	}
	if at, e := insn.Check(nil); at != 0 || e != api.ErrInsnMany {
		t.Errorf("P1.3: none: %d, %d", at, e)
	}
	for _, n := range []int{63, 64} {
		var l []api.Insn
		for range n {
			l = append(l, slot(0x85, 0, 1, 0, int32(n)))
		}
		for range n + 1 {
			l = append(l, exit)
		}
		parts, at, e := insn.Subs(l)
		if n == 63 && (len(parts) != 64 || parts[0] != api.Part{From: 0, To: 64} || parts[63] != api.Part{From: 126, To: 127} || e != api.OK) {
			t.Errorf("P1.4: %v, %d, %d", parts, at, e)
		}
		if n == 64 && (len(parts) != 0 || at != 0 || e != api.ErrInsnSubs) {
			t.Errorf("P1.4: 65 subprograms: %v, %d, %d", parts, at, e)
		}
	}
	// Too many subprograms come ahead of one that goes on.
	l := rows()
	for range 64 {
		l = append(l, slot(0x85, 0, 1, 0, 64))
	}
	for range 65 {
		l = append(l, zero)
	}
	if at, e := insn.Check(l); at != 0 || e != api.ErrInsnSubs {
		t.Errorf("P1.4: %d, %d", at, e)
	}
}

// TestWideTarget: P1.5.
func TestWideTarget(t *testing.T) {
	l := rows(slot(0x18, 15, 0, 0, -2), slot(0x05, 9, 9, 9, 7), slot(0x18, 1, 1, 0, 1), second, slot(0x18, 1, 0, 1, 1), second, slot(0x18, 0, 0, 0, 1))
	for at := -2; at < len(l)+2; at++ {
		n, ok := insn.Wide(l, at)
		if at == 0 && (n != 7<<32|0xFFFFFFFE || !ok) || at != 0 && (n != 0 || ok) {
			t.Errorf("P1.5: Wide at %d: %x, %v", at, n, ok)
		}
	}
	m := rows(slot(0x18, 0, 0, 0, 0), slot(0x18, 0, 0, 0, 0), slot(0x18, 0, 0, 0, 3), slot(0, 0, 0, 0, 0))
	if _, ok := insn.Wide(m, 1); ok {
		t.Error("P1.5: a second slot with the Op 18 is no wide load")
	}
	if n, ok := insn.Wide(m, 2); n != 3 || !ok {
		t.Error("P1.5: the slot behind a second one is no second one")
	}
	for _, c := range []struct {
		l  []api.Insn
		at int
		to int
		ok bool
	}{
		{rows(slot(0x05, 0, 0, 0, 0), exit), 0, 1, true},
		{rows(slot(0x05, 0, 0, 1, 0), exit), 0, 0, false},
		{rows(slot(0x05, 0, 0, -1, 0), exit), 0, 0, true},
		{rows(slot(0x05, 0, 0, -2, 0), exit), 0, 0, false},
		{rows(slot(0x05, 1, 0, 0, 0), exit), 0, 0, false},
		{rows(slot(0x56, 0, 0, 1, 5), exit, exit), 0, 2, true},
		{rows(slot(0x85, 0, 1, 0, 1), exit, exit), 0, 2, true},
		{rows(slot(0x85, 0, 0, 0, 1), exit, exit), 0, 0, false},
		{rows(slot(0x18, 0, 4, 0, 1), second, exit), 0, 2, true},
		{rows(slot(0x18, 0, 0, 0, 1), second, exit), 0, 0, false},
		{rows(slot(0x18, 0, 0, 0, 1), slot(0x05, 0, 0, 0, 0), exit), 1, 0, false},
		{rows(slot(0x05, 0, 0, 1, 0), slot(0x18, 0, 0, 0, 1), second), 0, 2, true},
		{rows(zero, exit), 0, 0, false},
		{rows(zero, exit), 1, 0, false},
		{rows(exit), -1, 0, false},
		{rows(exit), 1, 0, false},
		{rows(slot(0x85, 0, 1, 0, 2147483647), exit), 0, 0, false},
	} {
		if to, ok := insn.Target(c.l, c.at); to != c.to || ok != c.ok {
			t.Errorf("P1.5: Target(%v, %d): %d, %v, want %d, %v", c.l, c.at, to, ok, c.to, c.ok)
		}
	}
}

// TestKept: DOC.md: what is handed in is neither changed nor kept.
func TestKept(t *testing.T) {
	l := rows(zero, exit)
	b := insn.Encode(l)
	m, _ := insn.Decode(b)
	b[0] = 7
	if m[0] != zero {
		t.Error("Decode keeps its bytes")
	}
	p, _, _ := insn.Subs(l)
	q, _, _ := insn.Subs(l)
	p[0].To = 99
	if q[0].To != 2 || l[0] != zero {
		t.Error("answers share memory")
	}
}
