package verify_test

import (
	"math/rand"
	"testing"

	"barbican/api"
	"barbican/insn"
	"barbican/verify"
)

// maps: what the programs here are about.
func maps() []api.MapDef { return []api.MapDef{ring, array, hash, progs, timers} }

// corpus: programs that do something with everything; all of them are taken.
func corpus() []string {
	find := "*(u64 *)(r10 -16) = 0; *(u64 *)(r10 -8) = 0; r7 = r1; r2 = r10; r2 += -16; r3 = 12; call 13; if r0 == 0 goto +5; r6 = *(u32 *)(r0 +4); r1 = r0; call 14; r0 = r6; exit; r0 = 0; exit"
	return []string{
		find,
		"r1 = *(u8 *)(r1 +3); r1 &= 7; r2 = func +6; r3 = r10; r3 += -8; *(u64 *)(r10 -8) = 0; call 7; exit; r6 = r2; call 5; if r0 & 1 goto +1; *(u64 *)(r6 +0) = 5; if r0 > 9 goto +2; r0 = 0; exit; r0 &= 3; exit",
		"r1 = 5; r2 = func +5; r3 = 0; call 7; r0 += 1; exit; r6 = r1; *(u64 *)(r10 -16) = 0; *(u64 *)(r10 -8) = 0; r1 = map 0; r2 = 8; call 9; if r0 == 0 goto +2; r1 = r0; call 11; r0 = r6; r0 s>>= 1; exit",
		"r6 = *(u8 *)(r1 +9); r6 &= 3; r1 = map 0; r2 = 64; r3 = r10; r3 += -16; call 19; r1 = r10; r1 += -16; r2 = r6; r3 = 24; call 25; if r0 == 0 goto +5; r7 = r0; r7 += r6; r8 = r7; *(u64 *)(r8 +3) = 5; r0 = *(u16 *)(r7 +19); r1 = r10; r1 += -16; call 21; r0 = r6; exit",
		"r6 = *(u8 *)(r1 +1); r6 &= 7; r6 += 3; *(u64 *)(r10 -16) = 1; *(u64 *)(r10 -8) = r10; r7 = map 2; r8 = r1; r2 = r10; r2 += -16; r1 = map 0; r3 = 8; call 8; if r0 s< 0 goto +3; r1 = r8; r1 += r6; r0 = *(u8 *)(r1 +40); exit",
		"r6 = *(u32 *)(r1 +0); *(u32 *)(r10 -4) = 0; r2 = r10; r2 += -4; r1 = map 1; call 1; if r0 == 0 goto +4; if r6 > 7 goto +2; r0 += r6; goto +2; r0 = 0; exit; r0 = *(u8 *)(r0 +8); exit",
		"r6 = *(u32 *)(r1 +0); *(u32 *)(r10 -4) = 0; r2 = r10; r2 += -4; r1 = map 2; call 1; if r0 == 0 goto +4; r6 &= 7; r0 += r6; r0 = *(u8 *)(r0 +0); exit; r0 = 0; exit",
		"r1 = map 0; r2 = 40; call 9; if r0 == 0 goto +4; *(u8 *)(r0 +39) = 5; r1 = r0; call 10; goto +0; r0 = 0; exit",
		"r1 = map 0; r2 = 40; r3 = r10; r3 += -16; call 19; r1 = r10; r1 += -16; r2 = 0; r3 = 8; call 25; if r0 == 0 goto +1; *(u64 *)(r0 +0) = 5; r1 = r10; r1 += -16; call 20; r0 = 0; exit",
		"r1 = r10; r1 += -16; r2 = 0; r3 = 9; call 26; r6 = 0; r1 = r10; r1 += -16; call 27; if r0 == 0 goto +3; r1 = *(u32 *)(r0 +0); r6 += r1; goto -7; r1 = r10; r1 += -16; call 28; r0 = r6; exit",
		"r6 = *(u32 *)(r1 +4); r1 = r10; r1 += -16; r2 = 0; r3 = r6; call 26; r6 = 0; r1 = r10; r1 += -16; call 27; if r0 == 0 goto +3; r1 = *(u32 *)(r0 +0); r6 = r1; goto -7; r1 = r10; r1 += -16; call 28; r0 = r6; exit",
		"*(u64 *)(r10 -8) = 0; r1 = 6; r2 = func +6; r3 = r10; r3 += -8; call 7; r0 = *(u64 *)(r10 -8); exit; r3 = *(u64 *)(r2 +0); r3 += r1; *(u64 *)(r2 +0) = r3; r0 = 0; exit",
		"r1 = *(u8 *)(r1 +3); r2 = func +5; r3 = r10; call 7; r0 = 1; exit; call 5; r0 &= 1; exit",
		"*(u32 *)(r10 -4) = 0; r2 = r10; r2 += -4; r1 = map 4; call 1; if r0 == 0 goto +12; r6 = r0; r1 = r6; r2 = map 4; call 15; r1 = r6; r2 = func +7; call 16; r1 = r6; r2 = 1; call 17; r0 = 0; exit; r0 = *(u64 *)(r3 +16); r6 = *(u32 *)(r2 +0); r0 += r6; *(u64 *)(r3 +16) = r0; r1 = r3; r2 = 1; call 17; r0 = 0; exit",
		"*(u32 *)(r10 -4) = 1; *(u64 *)(r10 -16) = 7; r1 = map 2; r2 = r10; r2 += -4; r3 = r10; r3 += -16; r4 = 0; call 2; r6 = r0; r1 = map 2; r2 = r10; r2 += -4; call 3; r0 += r6; exit",
		"r6 = r1; r2 = map 3; r3 = 1; call 6; *(u64 *)(r10 -8) = r6; r1 = *(u64 *)(r10 -8); r0 = *(u32 *)(r1 +60); exit",
		"*(u32 *)(r10 -4) = 1; r2 = r10; r2 += -4; r1 = map 1; call 1; if r0 == 0 goto +16; r6 = r0; r1 = r0; r1 += 2; r2 = 9; r3 = r10; r3 += -32; call 22; *(u64 *)(r10 -16) = 1; r1 = r10; r1 += -16; r2 = 8; r3 = r10; r3 += -32; r4 = 1; call 23; r7 = r0; goto +0; r1 = r10; r1 += -8; r0 = 0; exit",
		"r1 = map 0; r2 = 24; r3 = r10; r3 += -32; call 19; *(u64 *)(r10 -8) = 77; r1 = r10; r1 += -32; r2 = 5; r3 = r10; r3 += -8; r4 = 8; call 24; r6 = r0; r1 = r10; r1 += -64; r2 = 16; r3 = r10; r3 += -32; r4 = 3; call 23; if r0 != 0 goto +1; r6 = *(u64 *)(r10 -56); r1 = r10; r1 += -32; call 21; r0 = r6; exit",
		"r1 = 9; call +2; r0 += 1; exit; r6 = r1; if r1 > 4 goto +2; r0 = r6; exit; r1 = r6; call +2; r0 += r6; exit; *(u64 *)(r10 -8) = r1; r0 = *(u8 *)(r10 -8); exit",
		"r6 = r10; r6 += -16; *(u64 *)(r10 -16) = r1; *(u64 *)(r10 -8) = 3; r1 = r6; call +1; exit; r2 = *(u64 *)(r1 +0); r0 = *(u16 *)(r2 +2); r3 = *(u64 *)(r1 +8); r0 += r3; *(u32 *)(r1 +8) = r0; exit",
		"call 5; r6 = r0; call 4; if r0 s> r6 goto +1; r6 <<= 3; w6 s>>= 2; r6 %= 7; r0 = be32 r0; r0 -= r6; exit",
		"r2 = r1; r1 = map 0; r3 = 20; call 8; r6 = r0; r1 = map 0; call 12; r0 ^= r6; exit",
		"r1 = map 0; r2 = 16; call 9; if r0 == 0 goto +15; r6 = r0; r1 = r0; r2 = 8; r3 = r10; r3 += -16; call 22; r1 = r10; r1 += -16; r2 = 2; r3 = 4; call 25; if r0 == 0 goto +1; *(u32 *)(r0 +0) = 9; r1 = r6; call 10; r0 = 0; exit",
	}
}

// kinds: operations that a mutation may come to, for the place of another one.
var kinds = []api.Insn{
	{Op: 0xBF, Dst: 1, Src: 6}, {Op: 0xBF, Dst: 6}, {Op: 0x07, Dst: 1, Imm: -8}, {Op: 0x0F, Dst: 6, Src: 1}, {Op: 0xB7, Imm: 1}, {Op: 0x57, Dst: 6, Imm: 15}, {Op: 0x15, Imm: 0, Off: 1}, {Op: 0x55, Imm: 0, Off: 2},
	{Op: 0x25, Dst: 6, Imm: 5, Off: 1}, {Op: 0xC5, Dst: 6, Imm: 3, Off: 1}, {Op: 0x6D, Dst: 6, Src: 0, Off: 1}, {Op: 0x7B, Dst: 10, Src: 6, Off: -8}, {Op: 0x79, Dst: 6, Src: 10, Off: -8}, {Op: 0x63, Dst: 10, Src: 6, Off: -4},
	{Op: 0x61, Dst: 6, Src: 10, Off: -4}, {Op: 0x7A, Dst: 10, Off: -16}, {Op: 0x71, Dst: 6, Src: 0}, {Op: 0x73, Dst: 0, Src: 6}, {Op: 0x85, Imm: 4}, {Op: 0x85, Imm: 5}, {Op: 0x85, Imm: 10}, {Op: 0x85, Imm: 11}, {Op: 0x85, Imm: 14}, {Op: 0x85, Imm: 20},
	{Op: 0x85, Imm: 27}, {Op: 0x85, Imm: 28}, {Op: 0x85, Imm: 1}, {Op: 0x85, Imm: 3}, {Op: 0x85, Imm: 25}, {Op: 0x05}, {Op: 0x1F, Dst: 1, Src: 6}, {Op: 0x95}, {Op: 0x16, Dst: 6, Off: 1}, {Op: 0xAE, Dst: 6, Src: 0, Off: 1}, {Op: 0x45, Dst: 6, Imm: 4, Off: 1},
}

// mutated: l with some of its operations changed, put in, taken out.
func mutated(r *rand.Rand, l []api.Insn) []api.Insn {
	l = append([]api.Insn(nil), l...)
	for range 1 + r.Intn(4) {
		at := r.Intn(len(l))
		switch x := &l[at]; r.Intn(9) {
		case 0:
			x.Imm += int32(r.Intn(9) - 4)
		case 1:
			x.Off += int16(r.Intn(9) - 4)
		case 2:
			x.Dst = uint8(r.Intn(11))
		case 3:
			x.Src = uint8(r.Intn(11))
		case 4:
			*x = kinds[r.Intn(len(kinds))]
		case 5:
			l = spliced(l, at, 0, kinds[r.Intn(len(kinds))])
		case 6:
			l = spliced(l, at, 1)
		case 7:
			from := r.Intn(len(l))
			n := min(1+r.Intn(6), len(l)-from)
			l = spliced(l, at, 0, l[from:from+n]...)
		case 8:
			x.Op ^= []uint8{0x08, 0x10, 0x20, 0x40, 0x80, 0x03, 0x01}[r.Intn(7)]
		}
		if len(l) == 0 {
			return nil
		}
	}
	return l
}

// spliced: at at so many slots are taken out, and more put in; jumps over that place are fitted.
func spliced(l []api.Insn, at, out int, in ...api.Insn) []api.Insn {
	var m []api.Insn
	move := len(in) - out
	for i, x := range l {
		if i == at {
			m = append(m, in...)
		}
		if i >= at && i < at+out {
			continue
		}
		jump := x.Op&7 == 5 && x.Op != 0x85 && x.Op != 0x95 || x.Op&7 == 6
		if to := i + 1 + int(x.Off); jump && i < at && to > at {
			x.Off += int16(move)
		} else if jump && i >= at && to <= at {
			x.Off -= int16(move)
		}
		names := x.Op == 0x85 && x.Src == 1 || x.Op == 0x18 && x.Src == 4
		if to := i + 1 + int(x.Imm); names && i < at && to > at {
			x.Imm += int32(move)
		} else if names && i >= at && to <= at {
			x.Imm -= int32(move)
		}
		m = append(m, x)
	}
	return m
}

// TestSafety: P17.2, P17.3: programs that are like others that are taken; those that are taken, too, don't trap.
func TestSafety(t *testing.T) {
	r := rand.New(rand.NewSource(*seed))
	var pool [][]api.Insn
	for _, s := range corpus() {
		if !taken(t, s, maps()...) {
			v, _ := verify.Check(object(lines(t, s), maps()...), 0)
			t.Errorf("%s: %+v", s, v)
		}
		pool = append(pool, lines(t, s))
	}
	checked, good := 0, 0
	for range *rounds {
		l := mutated(r, pool[r.Intn(len(pool))])
		if _, e := insn.Check(l); e != api.OK {
			continue
		}
		o := object(l, maps()...)
		v, e := verify.Check(o, 0)
		if e != api.OK {
			continue
		}
		checked++
		if v.Why != api.OK || v.Looked > 20000 {
			continue
		}
		good++
		// Another one beside it, for tail calls.
		o.Progs = append(o.Progs, api.Prog{Name: "other", Insns: pool[r.Intn(len(pool))]})
		if w, _ := verify.Check(o, 1); w.Why != api.OK {
			o.Progs = o.Progs[:1]
		}
		runs(t, o, 6)
		if len(pool) < 3000 && len(l) < 120 {
			pool = append(pool, l)
		} else if len(l) < 120 {
			pool[len(corpus())+r.Intn(len(pool)-len(corpus()))] = l
		}
	}
	t.Logf("%d checked, %d taken", checked, good)
	if *rounds > 1000 && good < *rounds/100 {
		t.Errorf("only %d are taken", good)
	}
}
