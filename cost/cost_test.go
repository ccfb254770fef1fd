package cost_test

import (
	"fmt"
	"math/rand"
	"strings"
	"testing"

	"barbican/api"
	"barbican/cost"
	"barbican/flow"
	"barbican/insn"
	"barbican/text"
	"barbican/vm"
)

func lines(t *testing.T, s string) []api.Insn {
	t.Helper()
	l, at, e := text.Parse(strings.ReplaceAll(s, "; ", "\n"))
	if e != api.OK {
		t.Fatalf("line %d of %q", at, s)
	}
	return l
}

// TestRows: P24.1, P24.2.
func TestRows(t *testing.T) {
	for _, c := range []struct {
		prog                    string
		longest, shortest, ways uint64
		worst                   string
	}{
		{"r0 = 0; exit", 2, 2, 1, "[0 1]"},
		{"r0 = 1; if r0 == 0 goto +1; r0 = 2; exit", 4, 3, 2, "[0 1 2 3]"},
		{"exit", 1, 1, 1, "[0]"},
		{"r0 = 5 ll; goto +1; exit; exit", 3, 3, 1, "[0 2 4]"},
		{"if r1 == 0 goto +0; exit", 2, 2, 1, "[0 1]"},
		{"if r1 == 0 goto +1; exit; exit", 2, 2, 2, "[0 1]"},
		{"if r1 == 0 goto +1; exit; r0 = 0; exit", 3, 2, 2, "[0 2 3]"},
		{"if r1 == 0 goto +1; if r1 == 0 goto +1; r0 = 0; exit", 4, 3, 3, "[0 1 2 3]"},
		{"call +1; exit; r0 = 0; exit", 4, 4, 1, "[0 1]"},
		{"call +2; call +1; exit; if r1 == 0 goto +1; r0 = 0; exit", 9, 7, 4, "[0 1 2]"},
		{"r2 = func +3; r0 = 0; exit; r0 = 7; exit", 3, 3, 1, "[0 2 3]"},
		{"if r1 == 0 goto +2; call +4; exit; r0 = 0; r0 = 0; exit; r0 = 0; r0 = 0; r0 = 0; exit", 7, 4, 2, "[0 1 2]"},
		{"call 4; call 7; exit", 3, 3, 1, "[0 1 2]"},
		{"exit; goto -1", 1, 1, 1, "[0]"},
	} {
		l := lines(t, c.prog)
		if at, e := insn.Check(l); e != api.OK {
			t.Errorf("%s: %d, %d", c.prog, at, e)
			continue
		}
		a, e1 := cost.Longest(l)
		b, e2 := cost.Shortest(l)
		n, e3 := cost.Ways(l)
		w, e4 := cost.Worst(l)
		if a != c.longest || b != c.shortest || n != c.ways || fmt.Sprint(w) != c.worst || e1 != api.OK || e2 != api.OK || e3 != api.OK || e4 != api.OK {
			t.Errorf("P24.1: %s: %d, %d, %d, %v, want %d, %d, %d, %s", c.prog, a, b, n, w, c.longest, c.shortest, c.ways, c.worst)
		}
	}
}

// TestErrors: all calls.
func TestErrors(t *testing.T) {
	for prog, want := range map[string]api.Errno{
		"goto -1": api.ErrCostLoop, "r0 = 0; if r0 == 0 goto -2; exit": api.ErrCostLoop, "call +1; exit; call -1; exit": api.ErrCostLoop, strings.Repeat("call +1; exit; ", 8) + "exit": api.ErrCostLoop,
		"call +1; exit; goto -1": api.ErrCostLoop, "r0 = 0": api.ErrInsnEnd, "goto +9": api.ErrInsnJump, "exit; goto -1": api.OK, "r2 = func -1; exit": api.OK,
	} {
		l := lines(t, prog)
		if _, e := insn.Check(l); e != api.OK {
			want = e
		}
		a, e1 := cost.Longest(l)
		b, e2 := cost.Shortest(l)
		n, e3 := cost.Ways(l)
		w, e4 := cost.Worst(l)
		if e1 != want || e2 != want || e3 != want || e4 != want || want != api.OK && a+b+n+uint64(len(w)) != 0 {
			t.Errorf("%s: %d, %d, %d, %d, want %d", prog, e1, e2, e3, e4, want)
		}
	}
	if _, e := cost.Ways(nil); e != api.ErrInsnMany {
		t.Errorf("%d", e)
	}
}

// TestHuge: P24.1 above 2^63 - 1.
func TestHuge(t *testing.T) {
	l := lines(t, strings.Repeat("if r1 == 0 goto +1; r0 = 0; ", 100)+"exit")
	if n, e := cost.Ways(l); n != 1<<63-1 || e != api.OK {
		t.Errorf("P24.1: %d, %d", n, e)
	}
	if n, _ := cost.Longest(l); n != 201 {
		t.Errorf("P24.1: %d", n)
	}
	if n, _ := cost.Ways(lines(t, strings.Repeat("if r1 == 0 goto +1; r0 = 0; ", 62)+"exit")); n != 1<<62 {
		t.Errorf("P24.1: %d", n)
	}
	if n, _ := cost.Ways(lines(t, strings.Repeat("if r1 == 0 goto +1; r0 = 0; ", 63)+"exit")); n != 1<<63-1 {
		t.Errorf("P24.1: %d", n)
	}
	// Eight subprograms, each of which calls the next one 500 times: above 2^64 operations.
	deep := func(last int) []api.Insn {
		var l []api.Insn
		for i := range 7 {
			end := (i + 1) * 501
			for range 500 {
				l = append(l, api.Insn{Op: 0x85, Src: 1, Imm: int32(end - len(l) - 1)})
			}
			l = append(l, api.Insn{Op: 0x95})
		}
		for range last {
			l = append(l, api.Insn{Op: 0xB7})
		}
		return append(l, api.Insn{Op: 0x95})
	}
	for _, f := range []func([]api.Insn) (uint64, api.Errno){cost.Longest, cost.Shortest} {
		if n, e := f(deep(500)); n != 1<<63-1 || e != api.OK {
			t.Errorf("P24.1: %d, %d", n, e)
		}
	}
	if n, _ := cost.Ways(deep(5)); n != 1 {
		t.Errorf("P24.1: %d", n)
	}
	// Of two ways above 2^63 the longer one: subprogram 0 has a comparison, behind which it calls once more, or not.
	l = deep(80)
	l = append([]api.Insn{{Op: 0x15, Off: 1}, {Op: 0xB7}}, l...)
	if w, e := cost.Worst(l); e != api.OK || len(w) != 503 || w[1] != 1 {
		t.Errorf("P24.2: %d slots, %d", len(w), e)
	}
}

// random: a program without loops.
func random(r *rand.Rand) []api.Insn {
	for {
		n := 3 + r.Intn(20)
		l := []api.Insn{{Op: 0xB7, Dst: 6, Imm: int32(r.Intn(9))}, {Op: 0xB7, Imm: 1}}
		for len(l) < n {
			switch r.Intn(8) {
			case 0:
				l = append(l, api.Insn{Op: 0x05, Off: int16(r.Intn(4))})
			case 1, 2, 3:
				l = append(l, api.Insn{Op: 0x25, Dst: 6, Imm: int32(r.Intn(9)), Off: int16(r.Intn(5))})
			case 4:
				l = append(l, api.Insn{Op: 0x95})
			case 5:
				l = append(l, api.Insn{Op: 0x85, Src: 1, Imm: int32(r.Intn(n))})
			case 6:
				l = append(l, api.Insn{Op: 0x18, Dst: 7}, api.Insn{})
			default:
				l = append(l, api.Insn{Op: 0x07, Dst: 6, Imm: int32(r.Intn(5) - 2)})
			}
		}
		l = append(l, api.Insn{Op: 0x95})
		if _, e := cost.Longest(l); e == api.OK {
			return l
		}
	}
}

// all: the lengths of all ways from at on.
func all(l []api.Insn, at int) []uint64 {
	next, _ := flow.Next(l, at)
	rest := []uint64{0}
	if len(next) > 0 {
		rest = nil
	}
	for _, to := range next {
		rest = append(rest, all(l, to)...)
	}
	if l[at].Op == 0x85 && l[at].Src == 1 {
		first, _ := insn.Target(l, at)
		var both []uint64
		for _, a := range all(l, first) {
			for _, b := range rest {
				both = append(both, a+b)
			}
		}
		rest = both
	}
	for i := range rest {
		rest[i]++
	}
	return rest
}

// TestAll: P24.1, P24.2, P24.3 against all ways, and runs.
func TestAll(t *testing.T) {
	r := rand.New(rand.NewSource(1))
	for range 3000 {
		l := random(r)
		longest, _ := cost.Longest(l)
		shortest, _ := cost.Shortest(l)
		ways, _ := cost.Ways(l)
		worst, _ := cost.Worst(l)
		if ways > 20000 {
			continue
		}
		lengths := all(l, 0)
		least, most := lengths[0], lengths[0]
		for _, n := range lengths {
			least, most = min(least, n), max(most, n)
		}
		if longest != most || shortest != least || ways != uint64(len(lengths)) {
			t.Fatalf("P24.1: %v: %d, %d, %d, want %d, %d, %d", l, longest, shortest, ways, most, least, len(lengths))
		}
		var sum uint64
		for i, at := range worst {
			next, _ := flow.Next(l, at)
			sum++
			if l[at].Op == 0x85 && l[at].Src == 1 {
				first, _ := insn.Target(l, at)
				called := uint64(0)
				for _, n := range all(l, first) {
					called = max(called, n)
				}
				sum += called
			}
			if i+1 == len(worst) {
				if len(next) != 0 {
					t.Fatalf("P24.2: %v: %v", l, worst)
				}
			} else if len(next) == 0 || next[0] != worst[i+1] && (len(next) < 2 || next[1] != worst[i+1]) {
				t.Fatalf("P24.2: %v: %v", l, worst)
			}
		}
		if worst[0] != 0 || sum != longest {
			t.Fatalf("P24.2: %v: %v has %d, want %d", l, worst, sum, longest)
		}
		m, e := vm.New(api.Object{Progs: []api.Prog{{Name: "p", Insns: l}}}, nil)
		if e != api.OK {
			t.Fatal(e)
		}
		o, _ := m.Run(0, api.Env{Ctx: make([]byte, api.CtxSize)}, 1<<20)
		if uint64(o.Steps) > longest || o.Trap == 0 && uint64(o.Steps) < shortest {
			t.Fatalf("P24.3: %v: %v, %d to %d", l, o, shortest, longest)
		}
	}
}
