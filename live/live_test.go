package live_test

import (
	"fmt"
	"math/rand"
	"strings"
	"testing"

	"barbican/api"
	"barbican/flow"
	"barbican/insn"
	"barbican/live"
	"barbican/proto"
	"barbican/text"
	"barbican/vm"
)

func lines(t *testing.T, s string) []api.Insn {
	t.Helper()
	l, at, e := text.Parse(strings.ReplaceAll(s, "; ", "\n"))
	if e != api.OK {
		t.Fatalf("line %d of %q", at, s)
	}
	return l
}

// regs: a row of registers as their numbers.
func regs(row uint16) string {
	s := ""
	for i := range 16 {
		if row>>i&1 == 1 {
			s += fmt.Sprintf("%x", i)
		}
	}
	return s
}

// TestOperations: P16.1.
func TestOperations(t *testing.T) {
	for _, c := range []struct{ line, reads, writes string }{
		{"r3 = 5 ll", "", "3"}, {"r3 = map 0", "", "3"}, {"r3 = func +0", "", "3"}, {"r3 = *(u8 *)(r4 +0)", "4", "3"}, {"r3 = *(u64 *)(r3 +0)", "3", "3"},
		{"*(u8 *)(r4 +0) = 7", "4", ""}, {"*(u8 *)(r4 +0) = r5", "45", ""}, {"*(u64 *)(r10 +0) = r10", "a", ""},
		{"r3 += 1", "3", "3"}, {"r3 += r4", "34", "3"}, {"w3 -= w4", "34", "3"}, {"r3 = 1", "", "3"}, {"r3 = r4", "4", "3"}, {"w3 = w4", "4", "3"}, {"w3 = 4", "", "3"}, {"r3 = -r3", "3", "3"}, {"r3 s>>= r0", "03", "3"},
		{"r3 = le16 r3", "3", "3"}, {"r3 = be16 r3", "3", "3"}, {"r3 = swap16 r3", "3", "3"},
		{"goto +0", "", ""}, {"if r3 == 0 goto +0", "3", ""}, {"if r3 == r4 goto +0", "34", ""}, {"if w3 s<= w4 goto +0", "34", ""}, {"exit", "0", ""}, {"call +0", "12345", "012345"},
		{"call 0", "", "012345"}, {"call 99", "", "012345"}, {"call 1", "12", "012345"}, {"call 2", "1234", "012345"}, {"call 4", "", "012345"}, {"call 28", "1", "012345"},
	} {
		x := lines(t, c.line)[0]
		r, ok := live.Reads(x)
		w, also := live.Writes(x)
		if regs(r) != c.reads || regs(w) != c.writes || !ok || !also {
			t.Errorf("P16.1: %s: reads %s, writes %s", c.line, regs(r), regs(w))
		}
	}
	for n := 1; n <= 28; n++ {
		p, _ := proto.Of(n)
		want := ""
		for i, a := range p.Args {
			if a != api.ANone {
				want += fmt.Sprint(i + 1)
			}
		}
		if r, _ := live.Reads(api.Insn{Op: 0x85, Imm: int32(n)}); regs(r) != want {
			t.Errorf("P16.1: call %d: %s, want %s", n, regs(r), want)
		}
	}
	for _, x := range []api.Insn{{}, {Op: 0xB7, Src: 1}, {Op: 0xB7, Dst: 11}, {Op: 0xBF, Src: 11}, {Op: 0x8F}, {Op: 0x85, Src: 2}, {Op: 0x18, Src: 2}, {Op: 0x06}, {Op: 0x63, Imm: 1}} {
		r, ok := live.Reads(x)
		w, also := live.Writes(x)
		if r != 0 || w != 0 || ok || also {
			t.Errorf("P16.1: %+v: %d, %d, %v, %v", x, r, w, ok, also)
		}
	}
	if w, ok := live.Writes(api.Insn{Op: 0xB7, Dst: 10}); w != 1<<10 || !ok {
		t.Error("P16.1: r10 is a register")
	}
	for _, imm := range []int32{-1, 1 << 30, -1 << 31} {
		if r, ok := live.Reads(api.Insn{Op: 0x85, Imm: imm}); r != 0 || !ok {
			t.Errorf("P16.1: call %d", imm)
		}
	}
}

// TestLive: P16.2, P16.3.
func TestLive(t *testing.T) {
	for _, c := range []struct{ prog, live, dead string }{
		{"r1 = 1; r0 = r1; exit", ",1,0", "[]"},
		{"r1 = 1; r0 = 2; exit", ",,0", "[0]"},
		{"exit", "0", "[]"},
		{"r0 = 0; if r1 == 0 goto +1; r0 = r2; exit", "12,012,2,0", "[]"},
		{"r0 = 0; if r1 == 0 goto +1; r0 = 7; exit", "1,01,,0", "[]"},
		{"r0 = 0; r6 = 9; r6 -= 1; r0 += r7; if r6 != 0 goto -3; exit", "7,07,067,067,067,0", "[]"},
		{"r6 = r1; r1 = 3; r3 = map 0; call 4; r0 = r6; exit", "1,6,6,,6,6,0", "[1 2]"},
		{"r6 = 1; call +2; r0 += r6; exit; r0 = r1; r6 = 5; exit", "12345,123456,06,0,1,0,0", "[5]"},
		{"goto +1; r0 = r3; r0 = 0; exit", ",3,,0", "[]"},
		{"r5 = 5 ll; goto -3", ",,", "[0]"},
		{"*(u64 *)(r10 -8) = r3; r0 = *(u64 *)(r10 -8); exit", "3a,a,0", "[]"},
		{"w0 += 1; w0 = 2; exit", "0,,0", "[0]"},
		{"r2 = *(u8 *)(r1 +0); r0 = 2; exit", "1,,0", "[]"},
		{"exit; r1 = 5; exit", "0,0,0", "[]"},
	} {
		l := lines(t, c.prog)
		rows, e := live.Live(l)
		var s []string
		for _, row := range rows {
			s = append(s, regs(row))
		}
		if strings.Join(s, ",") != c.live || e != api.OK {
			t.Errorf("P16.2: %s: %s, %d, want %s", c.prog, strings.Join(s, ","), e, c.live)
		}
		d, e := live.Dead(l)
		if fmt.Sprint(d) != c.dead || e != api.OK {
			t.Errorf("P16.3: %s: %v, %d, want %s", c.prog, d, e, c.dead)
		}
	}
	for _, l := range [][]api.Insn{nil, {{Op: 0xB7}}, {{}}} {
		_, want := insn.Check(l)
		r, e := live.Live(l)
		d, f := live.Dead(l)
		if len(r)+len(d) != 0 || e != want || f != want {
			t.Errorf("P16.2: %v: %d, %d", l, e, f)
		}
	}
}

// random: a program that insn.Check takes.
func random(r *rand.Rand) []api.Insn {
	for {
		n := 3 + r.Intn(16)
		var l []api.Insn
		reg := func() uint8 { return uint8(r.Intn(7)) }
		for len(l) < n {
			switch r.Intn(10) {
			case 0:
				l = append(l, api.Insn{Op: 0x18, Dst: reg(), Imm: int32(r.Intn(9))}, api.Insn{})
			case 1:
				l = append(l, api.Insn{Op: 0x05, Off: int16(r.Intn(2*n) - n)})
			case 2, 3:
				l = append(l, api.Insn{Op: 0x2D, Dst: reg(), Src: reg(), Off: int16(r.Intn(2*n) - n)})
			case 4:
				l = append(l, api.Insn{Op: 0x95})
			case 5:
				l = append(l, api.Insn{Op: 0x85, Imm: int32(4 + r.Intn(2))})
			case 6, 7:
				l = append(l, api.Insn{Op: 0xB7, Dst: reg(), Imm: int32(r.Intn(5))})
			default:
				l = append(l, api.Insn{Op: 0x0F, Dst: reg(), Src: reg()})
			}
		}
		l = append(l, api.Insn{Op: 0x95})
		if _, e := insn.Check(l); e == api.OK {
			return l
		}
	}
}

// TestLeast: P16.2: the rows are such rows, and the least: found by ways from each slot.
func TestLeast(t *testing.T) {
	r := rand.New(rand.NewSource(1))
	for range 2000 {
		l := random(r)
		rows, e := live.Live(l)
		if e != api.OK {
			t.Fatal(e)
		}
		for at := range l {
			if at > 0 && l[at-1].Op == 0x18 {
				if rows[at] != 0 {
					t.Fatalf("P16.2: a second slot: %v", l)
				}
				continue
			}
			var want uint16
			for reg := range 11 {
				if readFrom(l, at, uint16(1)<<reg, map[int]bool{}) {
					want |= 1 << reg
				}
			}
			if rows[at] != want {
				t.Fatalf("P16.2: %v: slot %d: %s, want %s", l, at, regs(rows[at]), regs(want))
			}
		}
	}
}

// readFrom: whether a way from at on reads the register ahead of writing it.
func readFrom(l []api.Insn, at int, reg uint16, seen map[int]bool) bool {
	if seen[at] {
		return false
	}
	seen[at] = true
	if r, _ := live.Reads(l[at]); r&reg != 0 {
		return true
	}
	if w, _ := live.Writes(l[at]); w&reg != 0 {
		return false
	}
	next, _ := flow.Next(l, at)
	for _, to := range next {
		if readFrom(l, to, reg, seen) {
			return true
		}
	}
	return false
}

// TestSame: P16.4: what is dead is set to something else, and the runs are the same, but for that register.
func TestSame(t *testing.T) {
	r := rand.New(rand.NewSource(2))
	for range 1500 {
		l := random(r)
		for i := range 7 {
			l = append([]api.Insn{{Op: 0xB7, Dst: uint8(i), Imm: int32(r.Intn(9))}}, l...)
		}
		dead, _ := live.Dead(l)
		if len(dead) == 0 {
			continue
		}
		other := append([]api.Insn(nil), l...)
		at := dead[r.Intn(len(dead))]
		if l[at].Op != 0x18 && l[at].Op != 0xB7 {
			continue // it may trap by itself
		}
		other[at].Imm = 1234
		if a, b := done(t, l), done(t, other); a != b {
			t.Fatalf("P16.4: %v at %d: %s, %s", l, at, a, b)
		}
	}
}

func done(t *testing.T, l []api.Insn) string {
	t.Helper()
	m, e := vm.New(api.Object{Progs: []api.Prog{{Name: "p", Insns: l}}}, nil)
	if e != api.OK {
		t.Fatal(e)
	}
	o, _ := m.Run(0, api.Env{Ctx: make([]byte, api.CtxSize), Draws: []uint32{3, 1, 2}}, 500)
	if o.Trap == api.TrapUninit {
		return "uninit"
	}
	return fmt.Sprint(o)
}
