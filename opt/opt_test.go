package opt_test

import (
	"fmt"
	"math/rand"
	"reflect"
	"strings"
	"testing"

	"barbican/api"
	"barbican/flow"
	"barbican/insn"
	"barbican/opt"
	"barbican/text"
	"barbican/vm"
)

func lines(t *testing.T, s string) []api.Insn {
	t.Helper()
	l, at, e := text.Parse(strings.ReplaceAll(s, "; ", "\n"))
	if e != api.OK {
		t.Fatalf("line %d of %q", at, s)
	}
	return l
}

func told(l []api.Insn) string {
	s, _ := text.Print(l)
	return strings.TrimSuffix(strings.ReplaceAll(s, "\n", "; "), "; ")
}

// TestThread: P20.1.
func TestThread(t *testing.T) {
	for prog, want := range map[string]string{
		"exit": "exit", "goto +0; exit": "goto +0; exit", "goto +1; exit; goto -2": "goto +0; exit; goto -2", "goto +0; goto +0; goto +0; exit": "goto +2; goto +1; goto +0; exit",
		"if r0 == 0 goto +1; exit; goto +1; exit; r0 = 0; exit": "if r0 == 0 goto +3; exit; goto +1; exit; r0 = 0; exit", "if w0 > 1 goto +1; goto +1; goto -2; exit": "if w0 > 1 goto +2; goto +1; goto +0; exit",
		"goto -1": "goto -1", "if r0 == 0 goto +1; exit; goto -1": "if r0 == 0 goto +1; exit; goto -1",
		"r0 = 0; goto +2; r0 = 5 ll; exit": "r0 = 0; goto +2; r0 = 5 ll; exit", "r0 = 0; exit; goto +1; exit; goto -3; exit": "r0 = 0; exit; goto -1; exit; goto -1; exit",
		"call +2; goto +0; exit; goto +0; r0 = 0; exit": "call +2; goto +0; exit; goto +0; r0 = 0; exit",
	} {
		l := lines(t, prog)
		got, e := opt.Thread(l)
		if told(got) != want || e != api.OK {
			t.Errorf("P20.1: %s: %s, %d, want %s", prog, told(got), e, want)
		}
	}
	// Round: it comes to no Ja twice.
	got, e := opt.Thread(lines(t, "if r0 == 0 goto +1; exit; goto +0; goto +0; goto -3"))
	if e != api.OK || told(got) != "if r0 == 0 goto +3; exit; goto -1; goto -1; goto -1" {
		t.Errorf("P20.1: %s, %d", told(got), e)
	}
}

// TestTrim: P20.2.
func TestTrim(t *testing.T) {
	for _, c := range []struct{ prog, want, old string }{
		{"exit", "exit", "[0]"}, {"goto +0; r0 = 0; exit", "r0 = 0; exit", "[1 2]"}, {"r0 = 0; exit; r0 = 1; exit", "r0 = 0; exit", "[0 1]"}, {"goto -1", "goto -1", "[0]"}, {"goto -1; exit", "goto -1", "[0]"},
		{"goto +0; goto -2", "goto -1", "[1]"}, {"r0 = 0; goto +1; r0 = 1; exit", "r0 = 0; exit", "[0 3]"}, {"r0 = 0; goto +2; r0 = 1; exit; goto +0; exit", "r0 = 0; exit", "[0 5]"},
		{"goto +2; goto +2; exit; goto -3; r0 = 0; exit", "goto +1; goto +1; goto -2; r0 = 0; exit", "[0 1 3 4 5]"}, {"if r1 == 0 goto +1; goto +0; r0 = 0; exit", "if r1 == 0 goto +0; r0 = 0; exit", "[0 2 3]"},
		{"r2 = 5 ll; goto +2; r3 = 6 ll; r0 = r2; exit", "r2 = 5 ll; r0 = r2; exit", "[0 1 5 6]"}, {"r0 = 0; r6 = 5; goto +0; r6 -= 1; if r6 != 0 goto -3; goto +0; exit", "r0 = 0; r6 = 5; r6 -= 1; if r6 != 0 goto -2; exit", "[0 1 3 4 6]"},
		{"goto +1; exit; call +3; exit; r0 = 9; exit; goto +0; r0 = 0; exit", "call +1; exit; r0 = 0; exit", "[2 3 7 8]"}, {"r2 = func +5; goto +1; exit; exit; exit; goto +1; exit; exit", "r2 = func +2; exit; exit", "[0 1 4 8]"},
		{"call +1; exit; call +1; exit; goto +0; exit", "call +1; exit; call +1; exit; exit", "[0 1 2 3 5]"}, {"exit; call +1; exit; exit", "exit", "[0]"}, {"r0 = 0; if r0 == 0 goto +1; goto +1; goto -3; exit", "r0 = 0; if r0 == 0 goto +1; goto +1; goto -3; exit", "[0 1 2 3 4]"},
	} {
		l := lines(t, c.prog)
		if at, e := insn.Check(l); e != api.OK {
			t.Errorf("%s: %d, %d", c.prog, at, e)
			continue
		}
		got, old, e := opt.Trim(l)
		if told(got) != c.want || fmt.Sprint(old) != c.old || e != api.OK {
			t.Errorf("P20.2: %s: %s, %v, %d, want %s, %s", c.prog, told(got), old, e, c.want, c.old)
		}
	}
	for _, l := range [][]api.Insn{nil, {{}}, {{Op: 0xB7}}, make([]api.Insn, 4097)} {
		_, want := insn.Check(l)
		a, e := opt.Thread(l)
		b, old, f := opt.Trim(l)
		if len(a)+len(b)+len(old) != 0 || e != want || f != want {
			t.Errorf("P20.1: %d, %d, want %d", e, f, want)
		}
	}
}

// random: a program that insn.Check takes, with jumps to jumps, slots that aren't reached, subprograms and functions.
func random(r *rand.Rand) []api.Insn {
	for {
		n := 4 + r.Intn(22)
		l := []api.Insn{{Op: 0xB7, Dst: 6, Imm: int32(r.Intn(9))}, {Op: 0xB7, Imm: int32(r.Intn(3))}}
		for len(l) < n {
			off := int16(r.Intn(2*n) - n/2)
			switch r.Intn(12) {
			case 0, 1, 2:
				l = append(l, api.Insn{Op: 0x05, Off: int16(r.Intn(6)) * int16(1-r.Intn(2)*r.Intn(2)*2)})
			case 3, 4, 5:
				l = append(l, api.Insn{Op: 0x25, Dst: 6, Imm: int32(r.Intn(9)), Off: off})
			case 6:
				l = append(l, api.Insn{Op: 0x95})
			case 7:
				if r.Intn(3) == 0 {
					l = append(l, api.Insn{Op: 0x85, Src: 1, Imm: int32(r.Intn(n))})
				}
			case 8:
				if r.Intn(3) == 0 {
					l = append(l, api.Insn{Op: 0xB7, Dst: 1, Imm: 2}, api.Insn{Op: 0x18, Dst: 2, Src: 4, Imm: int32(r.Intn(n))}, api.Insn{}, api.Insn{Op: 0xB7, Dst: 3}, api.Insn{Op: 0x85, Imm: 7})
				} else {
					l = append(l, api.Insn{Op: 0x18, Dst: 7, Imm: int32(r.Intn(9))}, api.Insn{})
				}
			case 9:
				l = append(l, api.Insn{Op: 0x85, Imm: 5})
			default:
				l = append(l, api.Insn{Op: 0x07, Dst: uint8(6 * r.Intn(2)), Imm: int32(r.Intn(5) - 2)})
			}
		}
		l = append(l, api.Insn{Op: 0x95})
		if _, e := insn.Check(l); e == api.OK {
			return l
		}
	}
}

func done(t *testing.T, l []api.Insn) api.Outcome {
	t.Helper()
	m, e := vm.New(api.Object{Progs: []api.Prog{{Name: "p", Insns: l}}}, nil)
	if e != api.OK {
		t.Fatalf("P20.3: %s: %d", told(l), e)
	}
	o, _ := m.Run(0, api.Env{Ctx: make([]byte, api.CtxSize), Draws: []uint32{3, 1, 2, 8, 9}}, 20000)
	return o
}

// TestRuns: P20.3.
func TestRuns(t *testing.T) {
	r := rand.New(rand.NewSource(1))
	shorter, ended := 0, 0
	for range 4000 {
		l := random(r)
		before := fmt.Sprint(l)
		a, e := opt.Thread(l)
		b, old, f := opt.Trim(l)
		c, oldest, _ := opt.Trim(a)
		if e != api.OK || f != api.OK || fmt.Sprint(l) != before {
			t.Fatalf("P20.3: %s: %d, %d", told(l), e, f)
		}
		for _, m := range [][]api.Insn{a, b, c} {
			if at, e := insn.Check(m); e != api.OK {
				t.Fatalf("P20.3: %s: %s: %d, %d", told(l), told(m), at, e)
			}
		}
		checkTrimmed(t, l, b, old)
		o := done(t, l)
		if o.Trap == api.TrapFuel {
			continue
		}
		ended++
		if len(b) < len(l) {
			shorter++
		}
		for k, m := range [][]api.Insn{a, b, c} {
			p := done(t, m)
			at := [][]int{nil, old, oldest}[k]
			if at != nil {
				p.At = at[p.At]
			}
			if p.Steps > o.Steps {
				t.Fatalf("P20.3: %s: %s: %d steps, then %d", told(l), told(m), o.Steps, p.Steps)
			}
			p.Steps = o.Steps
			if fmt.Sprint(o) != fmt.Sprint(p) {
				t.Fatalf("P20.3: %s: %v; %s: %v", told(l), o, told(m), p)
			}
		}
	}
	if shorter < 500 || ended < 1500 {
		t.Errorf("only %d of %d are shorter", shorter, ended)
	}
}

// checkTrimmed: P20.2, P20.3: what is left over.
func checkTrimmed(t *testing.T, l, m []api.Insn, old []int) {
	t.Helper()
	again, same, e := opt.Trim(m)
	if e != api.OK || !reflect.DeepEqual(again, m) || len(same) != len(m) || len(m) > len(l) || len(old) != len(m) {
		t.Fatalf("P20.3: %s: %s, trimmed again %s", told(l), told(m), told(again))
	}
	reached, _ := flow.Reached(m)
	for at, x := range m {
		second := at > 0 && m[at-1].Op == 0x18
		if !reached[at] && !second {
			t.Fatalf("P20.2: %s: %s: %d isn't reached", told(l), told(m), at)
		}
		if x.Op == 0x05 && x.Off == 0 && !second {
			t.Fatalf("P20.2: %s: %s: %d goes on", told(l), told(m), at)
		}
		y := l[old[at]]
		if x.Op != y.Op || x.Dst != y.Dst || x.Src != y.Src || at > 0 && old[at] <= old[at-1] {
			t.Fatalf("P20.2: %s: %s: %v", told(l), told(m), old)
		}
	}
	kept := map[int]bool{}
	for _, at := range old {
		kept[at] = true
	}
	before, _ := flow.Reached(l)
	for at := range l {
		if before[at] && !kept[at] && l[at].Op != 0x05 {
			t.Fatalf("P20.2: %s: %d is taken out", told(l), at)
		}
	}
}

func TestFresh(t *testing.T) {
	l := lines(t, "goto +0; r0 = 0; exit")
	a, _ := opt.Thread(l)
	b, _, _ := opt.Trim(l)
	a[1].Imm, b[0].Imm = 7, 8
	if l[1].Imm != 0 {
		t.Error("answers share memory with what was handed in")
	}
}
