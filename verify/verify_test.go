package verify_test

import (
	"fmt"
	"math/rand"
	"strings"
	"testing"

	"barbican/api"
	"barbican/insn"
	"barbican/text"
	"barbican/verify"
	"barbican/vm"
)

func lines(t *testing.T, s string) []api.Insn {
	t.Helper()
	l, at, e := text.Parse(strings.ReplaceAll(s, "; ", "\n"))
	if e != api.OK {
		t.Fatalf("line %d of %q", at, s)
	}
	return l
}

func object(l []api.Insn, maps ...api.MapDef) api.Object {
	return api.Object{Maps: maps, Progs: []api.Prog{{Name: "main", Insns: l}}}
}

// taken: whether a program is taken; its bound is 0 if not.
func taken(t *testing.T, prog string, maps ...api.MapDef) bool {
	t.Helper()
	o := object(lines(t, prog), maps...)
	v, e := verify.Check(o, 0)
	n, f := verify.Bound(o, 0)
	if e != api.OK || f != api.OK {
		t.Fatalf("%s: %d, %d", prog, e, f)
	}
	right := v.Why == api.OK || v.Why == api.ErrFlowReach || v.Why == api.ErrFlowDeep || v.Why >= api.ErrVerifyReg && v.Why <= api.ErrVerifyRet
	if !right || v.Looked < 0 || v.Looked > api.MaxBudget || v.At < 0 || v.At >= len(o.Progs[0].Insns) || (n == 0) != (v.Why != api.OK) || n > 1<<56 {
		t.Fatalf("P17.1: %s: %+v, bound %d", prog, v, n)
	}
	if v.Why == api.OK {
		runs(t, o, 3)
	}
	return v.Why == api.OK
}

// runs: P17.2, P17.3 of an object that is taken.
func runs(t *testing.T, o api.Object, rounds int) {
	t.Helper()
	var most uint64
	for i := range o.Progs {
		n, _ := verify.Bound(o, i)
		most = max(most, n)
	}
	r := rand.New(rand.NewSource(7))
	socks := [][]byte{make([]byte, api.SockSize), make([]byte, api.SockSize)}
	m, e := vm.New(o, socks)
	if e != api.OK {
		t.Fatal(e)
	}
	check := func(out api.Outcome) {
		if out.Trap != api.TrapNone || uint64(out.Steps) > most*(api.MaxTail+1) {
			p, _ := text.Print(o.Progs[out.Prog].Insns)
			t.Fatalf("P17.2: trap %d at %d:%d, %d steps, bound %d, maps %+v:\n%s", out.Trap, out.Prog, out.At, out.Steps, most, o.Maps, p)
		}
		if fmt.Sprint(m.Counts()) != "[1 1]" {
			t.Fatalf("P17.2: sockets %v", m.Counts())
		}
	}
	for range rounds {
		outside(r, m, o)
		for i := range o.Progs {
			out, e := m.Run(i, someEnv(r), int(most)*(api.MaxTail+1))
			if e != api.OK {
				t.Fatal(e)
			}
			check(out)
		}
		l, _ := m.Tick(m.Now()+uint64(r.Intn(4)), someEnv(r), int(most)*(api.MaxTail+1))
		for _, out := range l {
			check(out)
		}
	}
}

func someEnv(r *rand.Rand) api.Env {
	e := api.Env{Ctx: make([]byte, api.CtxSize)}
	for i := range e.Ctx {
		if r.Intn(3) > 0 {
			e.Ctx[i] = byte(r.Intn(256) * r.Intn(2))
		}
	}
	for range r.Intn(6) {
		e.Draws = append(e.Draws, r.Uint32()>>r.Intn(33))
		e.Socks = append(e.Socks, r.Intn(3)-1)
	}
	return e
}

// outside: things are done to maps between invocations.
func outside(r *rand.Rand, m *vm.Machine, o api.Object) {
	for i, def := range o.Maps {
		key, v := make([]byte, def.Key), make([]byte, def.Value)
		if def.Key > 0 {
			key[0] = byte(r.Intn(4))
		}
		r.Read(v)
		switch r.Intn(4) {
		case 0, 1:
			m.Update(i, key, v, 0)
		case 2:
			m.Delete(i, key)
		}
		m.Set(i, r.Intn(4), r.Intn(len(o.Progs)+1)-1)
		if r.Intn(2) == 0 {
			m.Read(i)
		}
	}
}

var (
	array  = api.MapDef{Kind: api.MArray, Key: 4, Value: 16, Entries: 3}
	timers = api.MapDef{Kind: api.MArray, Key: 4, Value: 24, Entries: 3, Timer: true}
	hash   = api.MapDef{Kind: api.MHash, Key: 4, Value: 8, Entries: 3}
	progs  = api.MapDef{Kind: api.MProgs, Key: 4, Value: 4, Entries: 3}
	ring   = api.MapDef{Kind: api.MRing, Entries: 1024}
)

// TestErrors: P17.1.
func TestErrors(t *testing.T) {
	o := object(lines(t, "r0 = 0; exit"))
	for _, c := range []struct {
		o    api.Object
		prog int
		want api.Errno
	}{
		{api.Object{}, 0, api.ErrObjectProg}, {api.Object{Maps: make([]api.MapDef, 1)}, 0, api.ErrObjectMap}, {object(nil), 0, api.ErrObjectProg}, {o, -1, api.ErrObjectProg}, {o, 1, api.ErrObjectProg}, {o, 0, api.OK},
	} {
		v, e := verify.Check(c.o, c.prog)
		n, f := verify.Bound(c.o, c.prog)
		if e != c.want || f != c.want || e != api.OK && (v != (api.Verdict{}) || n != 0) {
			t.Errorf("P17.1: %+v, %d, %d, %d", v, n, e, f)
		}
	}
	if v, _ := verify.Check(o, 0); v != (api.Verdict{Looked: v.Looked}) || v.Looked < 2 {
		t.Errorf("P17.1: %+v", v)
	}
	if v, _ := verify.Check(object(lines(t, "exit")), 0); v.Why != api.ErrVerifyRet {
		t.Errorf("P17.1: %+v", v)
	}
}

// TestRefused: P17.4.
func TestRefused(t *testing.T) {
	for prog, why := range map[string]api.Errno{
		"r0 = 0; exit; exit": api.ErrFlowReach, "r0 = 0; goto +2; r0 = 5 ll; exit": api.ErrFlowReach, "call +1; exit; call -1; exit": api.ErrFlowDeep,
		strings.Repeat("call +1; exit; ", 8) + "r0 = 0; exit": api.ErrFlowDeep, "r0 = 0; goto -1": api.ErrVerifyBudget, "r0 = 1; if r0 != 0 goto -2; exit": api.ErrVerifyBudget,
	} {
		l := lines(t, prog)
		v, e := verify.Check(object(l), 0)
		if e != api.OK || v.Why != why {
			t.Errorf("P17.4: %s: %+v, %d, want %d", prog, v, e, why)
		}
		if why == api.ErrVerifyBudget && v.Looked != api.MaxBudget {
			t.Errorf("P17.1: %s: looked %d times", prog, v.Looked)
		}
	}
}

// plain: a program as P17.5 has it.
func plain(r *rand.Rand) []api.Insn {
	ops := []int{api.Add, api.Sub, api.Mul, api.Div, api.Or, api.And, api.Lsh, api.Rsh, api.Mod, api.Xor, api.Arsh}
	for {
		var l []api.Insn
		for i := range uint8(10) {
			l = append(l, api.Insn{Op: 0xB7, Dst: i, Imm: int32(r.Uint32())})
		}
		compares := 0
		n := 5 + r.Intn(470)
		for len(l) < n {
			d, s := uint8(r.Intn(10)), uint8(r.Intn(10))
			class := []uint8{api.Alu, api.Alu64}[r.Intn(2)]
			switch r.Intn(12) {
			case 0:
				l = append(l, api.Insn{Op: 0x18, Dst: d, Imm: int32(r.Uint32())}, api.Insn{Imm: int32(r.Uint32())})
			case 1:
				l = append(l, api.Insn{Op: class | api.Neg<<4, Dst: d})
			case 2:
				l = append(l, api.Insn{Op: api.Alu | api.End<<4, Dst: d, Imm: 32})
			case 3, 4:
				if compares < 6 && r.Intn(8) == 0 {
					compares++
					code := []int{api.Jeq, api.Jgt, api.Jge, api.Jset, api.Jne, api.Jsgt, api.Jsge, api.Jlt, api.Jle, api.Jslt, api.Jsle}[r.Intn(11)]
					l = append(l, api.Insn{Op: uint8(api.Jmp+r.Intn(2)) | 8 | uint8(code)<<4, Dst: d, Src: s, Off: int16(r.Intn(20))})
				}
			case 5, 6:
				l = append(l, api.Insn{Op: class | 8 | api.Mov<<4, Dst: d, Src: s})
			case 7, 8, 9:
				l = append(l, api.Insn{Op: class | 8 | uint8(ops[r.Intn(len(ops))])<<4, Dst: d, Src: s})
			default:
				l = append(l, api.Insn{Op: class | uint8(ops[r.Intn(len(ops))])<<4, Dst: d, Imm: int32(r.Uint32()) >> r.Intn(32)})
			}
		}
		l = append(l, api.Insn{Op: 0x95})
		if _, e := insn.Check(l); e == api.OK && len(l) <= 500 {
			return l
		}
	}
}

// TestPlain: P17.5.
func TestPlain(t *testing.T) {
	r := rand.New(rand.NewSource(1))
	for range 400 {
		l := plain(r)
		o := object(l)
		if v, _ := verify.Check(o, 0); v.Why != api.OK {
			t.Fatalf("P17.5: %v: %+v", l, v)
		}
		runs(t, o, 1)
	}
	for _, prog := range []string{"r0 = 1; if r0 == 1 goto +1; r0 = 2; exit", "r1 = 5; r0 = r1; exit", "r0 = 1 ll; goto +0; exit"} {
		if !taken(t, prog) {
			t.Errorf("P17.5: %s", prog)
		}
	}
	for reg := range 10 {
		if reg != 1 && taken(t, fmt.Sprintf("r0 = r%d; exit", reg)) {
			t.Errorf("r%d is read ahead of being written", reg)
		}
	}
	if taken(t, "r0 = r1; exit") {
		t.Error("the context is no result")
	}
}

// just: a family's program, with what stands in the place of each %, is taken just if want.
func just(t *testing.T, want bool, maps []api.MapDef, prog string, args ...any) {
	t.Helper()
	p := fmt.Sprintf(prog, args...)
	if got := taken(t, p, maps...); got != want {
		v, _ := verify.Check(object(lines(t, p), maps...), 0)
		t.Errorf("P17.6: %s: taken %v: %+v", p, got, v)
	}
}

// TestFamilies: P17.6.
func TestFamilies(t *testing.T) {
	for size, name := range map[int]string{1: "u8", 2: "u16", 4: "u32", 8: "u64"} {
		for _, o := range []int{-32768, -8, -1, 0, 1, 55, 56, 57, 60, 61, 62, 63, 64, 65, 32767} {
			just(t, o >= 0 && o+size <= 64, nil, "r0 = *(%s *)(r1 %+d); exit", name, o)
		}
	}
	for o := -540; o < 20; o++ {
		just(t, o >= -512 && o <= -8, nil, "*(u64 *)(r10 %+d) = %d; r0 = *(u64 *)(r10 %+d); exit", o, o, o)
	}
	for _, n := range []int{1, 2, 10, 999, 1000} {
		just(t, true, nil, "r0 = 0; r1 = %d; r0 += %d; r1 -= 1; if r1 != 0 goto -3; exit", n, -n*1000000)
	}
	for _, o := range []int{-1, 0, 60, 61} {
		just(t, o >= 0 && o <= 60, nil, "*(u64 *)(r10 -8) = r1; r2 = *(u64 *)(r10 -8); r0 = *(u32 *)(r2 %+d); exit", o)
	}
	lookup := "r6 = r1; *(u32 *)(r10 -4) = %d; r2 = r10; r2 += -4; r1 = map 0; call 1; "
	for n := range 3 {
		for _, o := range []int{0, 1, 15} {
			just(t, true, []api.MapDef{array}, lookup+"if r0 == 0 goto +1; r0 = *(u8 *)(r0 %+d); exit", n, o)
		}
		for _, o := range []int{-1, 16, 300} {
			just(t, false, []api.MapDef{array}, lookup+"if r0 == 0 goto +1; r0 = *(u8 *)(r0 %+d); exit", n, o)
		}
	}
	just(t, true, []api.MapDef{array}, lookup+"if r0 == 0 goto +1; r0 = *(u8 *)(r0 +3); exit", 77)
	just(t, false, []api.MapDef{array}, lookup+"r0 = *(u8 *)(r0 +3); exit", 3)
	get := "r6 = *(u32 *)(r1 +0); *(u32 *)(r10 -4) = 0; r2 = r10; r2 += -4; r1 = map 0; call 1; "
	for _, k := range []int{0, 1, 7, 8, 15, 16, 255, 1 << 20, 1 << 29, 1<<29 + 1, 1<<31 - 1} {
		for _, o := range []int{0, 1, 7, 8, 15, 16, 400} {
			just(t, k+o < 16, []api.MapDef{array}, get+"if r0 == 0 goto +4; if r6 > %d goto +2; r0 += r6; goto +2; r0 = 0; exit; r0 = *(u8 *)(r0 %+d); exit", k, o)
			just(t, k+o < 16, []api.MapDef{array}, get+"if r0 == 0 goto +4; r6 &= %d; r0 += r6; r0 = *(u8 *)(r0 %+d); exit; r0 = 0; exit", k, o)
		}
	}
	just(t, true, nil, "r1 = %d; call +1; exit; r0 = r1; r0 += %d; exit", 5, -6)
	for m := 1; m <= 10; m++ {
		just(t, m <= api.MaxFrames, nil, strings.Repeat("call +1; exit; ", m-1)+"r0 = %d; exit", m)
	}
	for _, n := range []int{0, 1, 1023, 1024, 1025, 1<<31 - 1} {
		just(t, true, nil, "*(u64 *)(r10 -8) = 0; r1 = %d; r2 = func +6; r3 = r10; r3 += -8; call 7; r0 = *(u64 *)(r10 -8); exit; r3 = *(u64 *)(r2 +0); r3 += r1; *(u64 *)(r2 +0) = r3; r0 = 0; exit", n)
	}
}

// TestHeld: P17.6, the families of what is held.
func TestHeld(t *testing.T) {
	record := "r1 = map 0; r2 = %d; call 9; if r0 == 0 goto +4; *(u8 *)(r0 %+d) = %d; r1 = r0; call %d; goto +0; r0 = 0; exit"
	for _, n := range []int{1, 2, 8, 511, 512} {
		for _, o := range []int{-1, 0, n - 1, n, n + 1, 1000} {
			just(t, o >= 0 && o < n, []api.MapDef{ring}, record, n, o, 5, 10)
			just(t, o >= 0 && o < n, []api.MapDef{ring}, record, n, o, 5, 11)
			just(t, false, []api.MapDef{ring}, record, n, o, 5, 4)
		}
	}
	sock := "*(u64 *)(r10 -16) = 0; *(u64 *)(r10 -8) = 0; r2 = r10; r2 += -16; r3 = 12; call 13; if r0 == 0 goto +5; r6 = *(u32 *)(r0 %+d); r1 = r0; call 14; r0 = r6; exit; r0 = 0; exit"
	for o := -4; o < 24; o++ {
		just(t, o == 0 || o == 4 || o == 8 || o == 16, nil, sock, o)
	}
	for _, n := range []int{1, 100, 512} {
		for _, h := range []int{20, 21} {
			just(t, true, []api.MapDef{ring}, "r1 = map 0; r2 = %d; r3 = r10; r3 += -16; call 19; r1 = r10; r1 += -16; r2 = 0; r3 = 1; call 25; if r0 == 0 goto +1; *(u8 *)(r0 +0) = %d; r1 = r10; r1 += -16; call %d; r0 = 0; exit", n, n, h)
		}
	}
	for _, n := range []int{0, 1, 1023, 1024} {
		just(t, true, nil, "r1 = r10; r1 += -16; r2 = 0; r3 = %d; call 26; r6 = 0; r1 = r10; r1 += -16; call 27; if r0 == 0 goto +3; r1 = *(u32 *)(r0 +0); r6 += r1; goto -7; r1 = r10; r1 += -16; call 28; r0 = r6; exit", n)
	}
	just(t, true, []api.MapDef{progs}, "r2 = map 0; r3 = %d; call 6; r0 = %d; exit", 2, 9)
	for _, n := range []int{0, 5, -1, -1 << 31, 1<<31 - 1} {
		just(t, true, []api.MapDef{timers}, "*(u32 *)(r10 -4) = 0; r2 = r10; r2 += -4; r1 = map 0; call 1; if r0 == 0 goto +12; r6 = r0; r1 = r6; r2 = map 0; call 15; r1 = r6; r2 = func +7; call 16; r1 = r6; r2 = %d; call 17; r0 = 0; exit; r0 = 0; exit", n)
	}
	write := "*(u32 *)(r10 -4) = %d; *(u64 *)(r10 -16) = %d; r1 = map 0; r2 = r10; r2 += -4; r3 = r10; r3 += -16; r4 = 0; call 2; "
	just(t, true, []api.MapDef{hash}, write+"exit", 5, 6)
	just(t, true, []api.MapDef{hash}, write+"r1 = map 0; r2 = r10; r2 += -4; call 3; exit", 5, 6)
	just(t, true, []api.MapDef{hash}, "*(u32 *)(r10 -4) = %d; *(u64 *)(r10 -16) = %d; r1 = map 0; r2 = r10; r2 += -4; call 3; exit", 5, 6)
	just(t, true, nil, "call 4; exit")
	just(t, true, nil, "call 5; exit")
	just(t, true, []api.MapDef{ring}, "r1 = map 0; call 12; exit")
	just(t, true, []api.MapDef{ring}, "*(u64 *)(r10 -8) = %d; r1 = map 0; r2 = r10; r2 += -8; r3 = 8; call 8; exit", 7)
}
