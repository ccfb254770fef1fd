package flow_test

import (
	"fmt"
	"math/rand"
	"strings"
	"testing"

	"barbican/api"
	"barbican/flow"
	"barbican/insn"
	"barbican/text"
	"barbican/vm"
)

func lines(t *testing.T, s string) []api.Insn {
	t.Helper()
	l, at, e := text.Parse(strings.ReplaceAll(s, "; ", "\n"))
	if e != api.OK {
		t.Fatalf("line %d of %q", at, s)
	}
	return l
}

// TestCheckFirst: all calls tell insn.Check's error.
func TestCheckFirst(t *testing.T) {
	for _, l := range [][]api.Insn{nil, make([]api.Insn, 4097), {{Op: 0x95}, {}}, {{Op: 0x05}}, {{Op: 0xB7}}} {
		_, want := insn.Check(l)
		n, e1 := flow.Next(l, 99)
		r, e2 := flow.Reached(l)
		b, e3 := flow.Back(l)
		c, e4 := flow.Calls(l)
		d, e5 := flow.Depth(l)
		k, e6 := flow.Blocks(l)
		if len(n)+len(r)+len(b)+len(c)+d+len(k) != 0 || e1 != want || e2 != want || e3 != want || e4 != want || e5 != want || e6 != want {
			t.Errorf("%v: %d %d %d %d %d %d, want %d", l, e1, e2, e3, e4, e5, e6, want)
		}
	}
}

// TestNext: P15.1.
func TestNext(t *testing.T) {
	l := lines(t, "r0 = 5 ll; if r0 == 0 goto +0; if r0 > 1 goto -4; if w0 & 1 goto +2; call 4; goto -2; call +2; goto +0; exit; *(u64 *)(r10 -8) = 0; exit")
	want := map[int]string{0: "[2]", 2: "[3]", 3: "[4 0]", 4: "[5 7]", 5: "[6]", 6: "[5]", 7: "[8]", 8: "[9]", 9: "[]", 10: "[11]", 11: "[]"}
	for at := -3; at < 16; at++ {
		n, e := flow.Next(l, at)
		w, ok := want[at]
		if !ok && (len(n) != 0 || e != api.ErrFlowReach) || ok && (fmt.Sprint(n) != w || e != api.OK) {
			t.Errorf("P15.1: %d: %v, %d, want %s", at, n, e, w)
		}
	}
	if n, _ := flow.Next(lines(t, "r2 = func +2; exit; exit"), 0); fmt.Sprint(n) != "[2]" {
		t.Errorf("P15.1: behind a wide load of a function: %v", n)
	}
}

// row: reached slots as digits.
func row(l []bool) string {
	s := ""
	for _, is := range l {
		if is {
			s += "1"
		} else {
			s += "0"
		}
	}
	return s
}

// TestWhole: P15.2, P15.3, P15.4.
func TestWhole(t *testing.T) {
	for _, c := range []struct {
		prog, reached, back, calls, blocks string
		depth                              int
	}{
		{"r0 = 0; goto +0; exit", "111", "[]", "[[]]", "[{0 2} {2 3}]", 1},
		{"goto -1", "1", "[[0 0]]", "[[]]", "[{0 1}]", 1},
		{"goto -1; exit", "10", "[[0 0]]", "[[]]", "[{0 1}]", 1},
		{"r0 = 5 ll; if r0 == 0 goto -3; exit", "1011", "[[2 0]]", "[[]]", "[{0 3} {3 4}]", 1},
		{"r0 = 0; goto +1; r0 = 1; exit", "1101", "[]", "[[]]", "[{0 2} {3 4}]", 1},
		{"r0 = 0; r1 = 5 ll; exit; r0 = 1; exit", "110100", "[]", "[[]]", "[{0 4}]", 1},
		{"if r1 == 0 goto +1; r0 = 1; r0 = 2; exit", "1111", "[]", "[[]]", "[{0 1} {1 2} {2 4}]", 1},
		{"if r1 == 0 goto +0; exit", "11", "[]", "[[]]", "[{0 1} {1 2}]", 1},
		{"goto +1; exit; goto -2", "111", "[[2 1]]", "[[]]", "[{0 1} {1 2} {2 3}]", 1},
		{"call +1; exit; r0 = 0; exit", "1111", "[]", "[[1] []]", "[{0 2} {2 4}]", 2},
		{"call 4; exit; r0 = 0; exit", "1100", "[]", "[[]]", "[{0 2}]", 1},
		{"exit; call +1; exit; exit", "1000", "[]", "[[] []]", "[{0 1}]", 1},
		{"r2 = func +3; call +2; exit; exit; exit", "101111", "[]", "[[1 2] [] []]", "[{0 4} {4 5} {5 6}]", 2},
		{"call +1; exit; call -1; exit", "1111", "[]", "[[1] [1]]", "[{0 2} {2 4}]", -1},
		{"call +1; exit; call +1; exit; call -3; exit", "111111", "[]", "[[1] [2] [1]]", "[{0 2} {2 4} {4 6}]", -1},
		{"call +1; exit; r2 = func -1; exit", "11101", "[]", "[[1] [1]]", "[{0 2} {2 5}]", -1},
		{"call +2; call +1; exit; r0 = 0; exit", "11111", "[]", "[[1] []]", "[{0 3} {3 5}]", 2},
	} {
		l := lines(t, c.prog)
		if at, e := insn.Check(l); e != api.OK {
			t.Fatalf("%s: %d, %d", c.prog, at, e)
		}
		r, e1 := flow.Reached(l)
		b, e2 := flow.Back(l)
		k, e3 := flow.Calls(l)
		d, e4 := flow.Depth(l)
		p, e5 := flow.Blocks(l)
		if row(r) != c.reached || e1 != api.OK {
			t.Errorf("P15.2: %s: Reached %s, want %s", c.prog, row(r), c.reached)
		}
		if fmt.Sprint(b) != c.back || e2 != api.OK {
			t.Errorf("P15.2: %s: Back %v, want %s", c.prog, b, c.back)
		}
		if fmt.Sprint(k) != c.calls || e3 != api.OK {
			t.Errorf("P15.3: %s: Calls %v, want %s", c.prog, k, c.calls)
		}
		if want := max(c.depth, 0); d != want || (e4 == api.ErrFlowDeep) != (c.depth < 0) {
			t.Errorf("P15.3: %s: Depth %d, %d, want %d", c.prog, d, e4, c.depth)
		}
		if fmt.Sprint(p) != c.blocks || e5 != api.OK {
			t.Errorf("P15.4: %s: Blocks %v, want %s", c.prog, p, c.blocks)
		}
	}
}

// TestCalls: P15.3.
func TestCalls(t *testing.T) {
	l := lines(t, "call +5; call +4; r2 = func +5; call +3; exit; call +1; exit; r0 = 0; exit")
	if _, e := insn.Check(l); e != api.OK {
		t.Fatal(e)
	}
	if k, e := flow.Calls(l); fmt.Sprint(k) != "[[1 2] [2] []]" || e != api.OK {
		t.Errorf("P15.3: %v, %d", k, e)
	}
	if d, e := flow.Depth(l); d != 3 || e != api.OK {
		t.Errorf("P15.3: %d, %d", d, e)
	}
	for n := 1; n <= 10; n++ {
		l := lines(t, strings.Repeat("call +1; exit; ", n-1)+"exit")
		d, e := flow.Depth(l)
		if n <= api.MaxFrames && (d != n || e != api.OK) || n > api.MaxFrames && (d != 0 || e != api.ErrFlowDeep) {
			t.Errorf("P15.3: %d subprograms: %d, %d", n, d, e)
		}
	}
	// Each subprogram calls the next two: many rows, one longest.
	s := ""
	for range 7 {
		s += "call +2; call +4; exit; "
	}
	if d, e := flow.Depth(lines(t, s+"exit; exit; exit; exit")); d != 8 || e != api.OK {
		t.Errorf("P15.3: %d, %d", d, e)
	}
}

// random: a program that insn.Check takes.
func random(r *rand.Rand) []api.Insn {
	for {
		n := 2 + r.Intn(24)
		var l []api.Insn
		for len(l) < n {
			switch r.Intn(9) {
			case 0:
				l = append(l, api.Insn{Op: 0x18, Imm: int32(r.Intn(9))}, api.Insn{})
			case 1:
				l = append(l, api.Insn{Op: 0x05, Off: int16(r.Intn(2*n) - n)})
			case 2, 3, 4:
				l = append(l, api.Insn{Op: 0x25, Dst: 6, Imm: int32(r.Intn(5)), Off: int16(r.Intn(2*n) - n)})
			case 5:
				l = append(l, api.Insn{Op: 0x95})
			case 6:
				if r.Intn(3) == 0 {
					l = append(l, api.Insn{Op: 0x85, Src: 1, Imm: int32(r.Intn(2*n) - n)})
				}
			default:
				l = append(l, api.Insn{Op: 0x07, Dst: 6, Imm: int32(r.Intn(5) - 2)})
			}
		}
		l = append(l, api.Insn{Op: 0x95})
		if _, e := insn.Check(l); e == api.OK {
			return l
		}
	}
}

// TestRuns: P15.5, and Blocks against its words.
func TestRuns(t *testing.T) {
	r := rand.New(rand.NewSource(1))
	for range 3000 {
		l := random(r)
		reached, _ := flow.Reached(l)
		depth, deep := flow.Depth(l)
		back, _ := flow.Back(l)
		blocks, _ := flow.Blocks(l)
		m, e := vm.New(api.Object{Progs: []api.Prog{{Name: "p", Insns: append([]api.Insn{{Op: 0xB7, Dst: 6, Imm: int32(r.Intn(6))}}, l...)}}}, nil)
		if e != api.OK {
			t.Fatal(e)
		}
		frames := 0
		m.Watch(func(s api.Step) {
			frames = max(frames, s.Frames)
			if s.At > 0 && !reached[s.At-1] {
				t.Fatalf("P15.5: %v comes to %d", l, s.At-1)
			}
		})
		o, _ := m.Run(0, api.Env{Ctx: make([]byte, api.CtxSize)}, 3000)
		if deep == api.OK && (frames > depth || len(back) == 0 && o.Trap == api.TrapFuel && depth == 1) {
			t.Fatalf("P15.5: %v: %d frames, depth %d, %v", l, frames, depth, o)
		}
		checkBlocks(t, l, reached, blocks)
	}
}

// checkBlocks: P15.4.
func checkBlocks(t *testing.T, l []api.Insn, reached []bool, blocks []api.Part) {
	t.Helper()
	begins := map[int]bool{}
	parts, _, _ := insn.Subs(l)
	for _, p := range parts {
		begins[p.From] = true
	}
	for at, x := range l {
		jump := reached[at] && (x.Op == 0x05 || x.Op == 0x25)
		if to, ok := insn.Target(l, at); jump && ok {
			begins[to] = true
		}
		if jump || reached[at] && x.Op == 0x95 {
			begins[at+1] = true
		}
	}
	covered := make([]bool, len(l))
	end := 0
	for _, b := range blocks {
		if b.From < end || b.To <= b.From || !reached[b.From] {
			t.Fatalf("P15.4: %v: %v", l, blocks)
		}
		end = b.To
		for at := b.From; at < b.To; at++ {
			covered[at] = true
			if at > b.From && begins[at] {
				t.Fatalf("P15.4: %v: %v goes over %d", l, blocks, at)
			}
		}
		last := b.From > 0 && covered[b.From-1]
		if last && !begins[b.From] {
			t.Fatalf("P15.4: %v: %v: the row at %d isn't as long as may be", l, blocks, b.From)
		}
	}
	for at := range l {
		second := at > 0 && l[at-1].Op == 0x18
		if covered[at] != (reached[at] || second && reached[at-1]) {
			t.Fatalf("P15.4: %v: %v and %d", l, blocks, at)
		}
	}
}

func TestLarge(t *testing.T) {
	var l []api.Insn
	for range 4095 {
		l = append(l, api.Insn{Op: 0xB7})
	}
	l = append(l, api.Insn{Op: 0x95})
	r, e := flow.Reached(l)
	b, _ := flow.Blocks(l)
	if e != api.OK || !r[4095] || fmt.Sprint(b) != "[{0 4096}]" {
		t.Errorf("P15.2: %d, %v", e, b)
	}
}
