package op_test

import (
	"testing"

	"barbican/api"
	"barbican/op"
)

// TestBits: by the words of doc/01-insn.md.
func TestBits(t *testing.T) {
	for _, c := range []struct {
		op    uint8
		width int
		size  int
		jumps bool
	}{
		{0x18, 2, 0, false}, {0x61, 1, 4, false}, {0x69, 1, 2, false}, {0x71, 1, 1, false}, {0x79, 1, 8, false}, {0x62, 1, 4, false}, {0x6B, 1, 2, false}, {0x73, 1, 1, false}, {0x7A, 1, 8, false},
		{0x05, 1, 0, true}, {0x15, 1, 0, true}, {0xDD, 1, 0, true}, {0x16, 1, 0, true}, {0xDE, 1, 0, true}, {0x85, 1, 0, false}, {0x95, 1, 0, false}, {0xB7, 1, 0, false}, {0x0C, 1, 0, false},
	} {
		x := api.Insn{Op: c.op}
		if op.Width(x) != c.width || c.size > 0 && op.Size(x) != c.size || op.Jumps(x) != c.jumps {
			t.Errorf("%x: %d, %d, %v", c.op, op.Width(x), op.Size(x), op.Jumps(x))
		}
	}
	if op.Jump != 0x05 || op.Call != 0x85 || op.Exit != 0x95 {
		t.Error("operations")
	}
}

// TestSecond: second slots take turns.
func TestSecond(t *testing.T) {
	w, n := api.Insn{Op: 0x18}, api.Insn{}
	l := []api.Insn{w, w, w, n, n, w, n}
	for at, want := range []bool{false, true, false, true, false, false, true} {
		if op.IsSecond(l, at) != want {
			t.Errorf("slot %d", at)
		}
	}
	for k, c := range []struct {
		l    []api.Insn
		want bool
	}{
		{[]api.Insn{w}, false}, {[]api.Insn{w, n}, true}, {[]api.Insn{w, {Imm: 5}}, true}, {[]api.Insn{w, {Off: 5}}, false}, {[]api.Insn{w, {Dst: 5}}, false}, {[]api.Insn{w, {Src: 5}}, false}, {[]api.Insn{w, {Op: 5}}, false},
		{[]api.Insn{{Op: 0x18, Src: 1}, {Imm: 5}}, false}, {[]api.Insn{{Op: 0x18, Src: 4}, n}, true},
	} {
		if op.RightSecond(c.l, 0) != c.want {
			t.Errorf("row %d", k)
		}
	}
}
