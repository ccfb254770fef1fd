package fold_test

import (
	"fmt"
	"math/rand"
	"reflect"
	"strings"
	"testing"

	"barbican/api"
	"barbican/flow"
	"barbican/fold"
	"barbican/insn"
	"barbican/live"
	"barbican/text"
	"barbican/trace"
)

func lines(t *testing.T, s string) []api.Insn {
	t.Helper()
	l, at, e := text.Parse(strings.ReplaceAll(s, "; ", "\n"))
	if e != api.OK {
		t.Fatalf("line %d of %q", at, s)
	}
	return l
}

func told(l []api.Insn) string {
	s, _ := text.Print(l)
	return strings.TrimSuffix(strings.ReplaceAll(s, "\n", "; "), "; ")
}

// known: rows as what is known.
func known(rows [][11]api.Val) string {
	var s []string
	for _, row := range rows {
		var one []string
		for i, v := range row {
			if v.Kind == api.VNum {
				one = append(one, fmt.Sprintf("%d=%d", i, v.Num))
			} else if v != (api.Val{}) {
				one = append(one, "?")
			}
		}
		s = append(s, strings.Join(one, ","))
	}
	return strings.Join(s, ";")
}

// TestKnown: P25.1.
func TestKnown(t *testing.T) {
	for prog, want := range map[string]string{
		"exit":                                             "",
		"r0 = 5; exit":                                     ";0=5",
		"w0 = -1; exit":                                    ";0=4294967295",
		"r0 = -1; r0 += 2; w0 -= 2; exit":                  ";0=18446744073709551615;0=1;0=4294967295",
		"r0 = 5 ll; exit":                                  ";;0=5",
		"r0 = map 0; r0 = 3; exit":                         ";;;0=3",
		"r0 = 3; r2 = func +2; exit; exit":                 ";0=3;;0=3;",
		"r1 = 2; r1 += 3; r0 = r1; exit":                   ";1=2;1=5;0=5,1=5",
		"r0 = r1; exit":                                    ";",
		"r0 = 7; r0 = *(u8 *)(r1 +0); exit":                ";0=7;",
		"r0 = 7; r6 = 8; r3 = 9; call 4; exit":             ";0=7;0=7,6=8;0=7,3=9,6=8;6=8",
		"r0 = 7; r6 = 8; call +1; exit; exit":              ";0=7;0=7,6=8;6=8;",
		"r0 = 1; r2 = 2; if r1 == 0 goto +1; r0 = 3; exit": ";0=1;0=1,2=2;0=1,2=2;2=2",
		"r0 = 1; if r1 == 0 goto +1; r0 = 1; exit":         ";0=1;0=1;0=1",
		"r0 = 0; r6 = 4; r0 += 1; if r0 < 5 goto -2; exit": ";0=0;6=4;6=4;6=4",
		"r0 = 0; r0 *= 5; if r1 < 5 goto -2; exit":         ";0=0;0=0;0=0",
		"r0 = 1; goto +1; exit; exit":                      ";0=1;;0=1",
		"r0 = 258; r0 = be16 r0; r0 = swap32 r0; r0 = le16 r0; r0 = -r0; exit": ";0=258;0=513;0=16908288;0=0;0=0",
		"r2 = r1; r2 += 5; r3 = 5; r3 += r2; r0 = 0; exit":                     ";;;3=5;;0=0",
		"r0 = 7; r2 = 0; r0 /= r2; r0 %= r2; exit":                             ";0=7;0=7,2=0;0=0,2=0;0=0,2=0",
		"r6 = 1; *(u64 *)(r10 -8) = 5; exit":                                   ";6=1;6=1",
	} {
		rows, e := fold.Known(lines(t, prog))
		if known(rows) != want || e != api.OK {
			t.Errorf("P25.1: %s: %s, %d, want %s", prog, known(rows), e, want)
		}
	}
}

// TestFold: P25.2.
func TestFold(t *testing.T) {
	for prog, want := range map[string]string{
		"r1 = 2; r1 += 3; r0 = r1; exit":                                 "r1 = 2; r1 = 5; r0 = 5; exit",
		"w1 = -1; r0 = r1; exit":                                         "w1 = -1; r0 = r1; exit",
		"w1 = 7; w0 = w1; w0 += 1; exit":                                 "w1 = 7; r0 = 7; r0 = 8; exit",
		"r0 = 2147483647; r0 += 1; exit":                                 "r0 = 2147483647; r0 += 1; exit",
		"r0 = 2147483646; r0 += 1; exit":                                 "r0 = 2147483646; r0 = 2147483647; exit",
		"r0 = -2147483648; r0 += 0; exit":                                "r0 = -2147483648; r0 = -2147483648; exit",
		"r0 = -2147483648; r0 -= 1; exit":                                "r0 = -2147483648; r0 -= 1; exit",
		"r0 = 18446744073709551615 ll; r0 += 0; exit":                    "r0 = 18446744073709551615 ll; r0 = -1; exit",
		"r0 = 1; r0 = -r0; r0 = le16 r0; exit":                           "r0 = 1; r0 = -1; r0 = 65535; exit",
		"r0 = 1; goto +1; r0 += 1; exit":                                 "r0 = 1; goto +1; r0 += 1; exit",
		"r0 = r1; r0 += 1; exit":                                         "r0 = r1; r0 += 1; exit",
		"r0 = 0; r0 += 1; if r0 < 5 goto -2; exit":                       "r0 = 0; r0 += 1; if r0 < 5 goto -2; exit",
		"r0 = 5; r6 = r0; call +2; r6 += 1; exit; r6 = 3; r6 += 1; exit": "r0 = 5; r6 = 5; call +2; r6 = 6; exit; r6 = 3; r6 = 4; exit",
		"r0 = 5; r0 &= 0; if r0 == 0 goto +0; exit":                      "r0 = 5; r0 = 0; if r0 == 0 goto +0; exit",
	} {
		l := lines(t, prog)
		got, e := fold.Fold(l)
		if told(got) != want || e != api.OK || told(l) != prog {
			t.Errorf("P25.2: %s: %s, %d, want %s", prog, told(got), e, want)
		}
	}
	for _, l := range [][]api.Insn{nil, {{}}, {{Op: 0xB7}}, {{Op: 0x05}}} {
		_, want := insn.Check(l)
		a, e := fold.Fold(l)
		b, f := fold.Known(l)
		if len(a)+len(b) != 0 || e != want || f != want {
			t.Errorf("P25.1: %d, %d, want %d", e, f, want)
		}
	}
}

// random: a program that insn.Check takes.
func random(r *rand.Rand) []api.Insn {
	for {
		n := 4 + r.Intn(22)
		var l []api.Insn
		for i := range r.Intn(5) {
			l = append(l, api.Insn{Op: 0xB7, Dst: uint8(i), Imm: int32(r.Intn(9) - 4)})
		}
		reg := func() uint8 { return uint8(r.Intn(4)) }
		class := func() uint8 { return []uint8{api.Alu, api.Alu64}[r.Intn(2)] }
		for len(l) < n {
			off := int16(r.Intn(2*n) - n/2)
			switch r.Intn(11) {
			case 0:
				l = append(l, api.Insn{Op: 0x05, Off: off})
			case 1, 2:
				l = append(l, api.Insn{Op: 0x25, Dst: reg(), Imm: int32(r.Intn(9)), Off: off})
			case 3:
				l = append(l, api.Insn{Op: 0x95})
			case 4:
				if r.Intn(4) == 0 {
					l = append(l, api.Insn{Op: 0x85, Src: 1, Imm: int32(r.Intn(n))})
				} else {
					l = append(l, api.Insn{Op: 0x85, Imm: 5})
				}
			case 5:
				l = append(l, api.Insn{Op: 0x18, Dst: reg(), Imm: int32(r.Uint32()), Src: 0}, api.Insn{Imm: int32(r.Intn(3) - 1)})
			case 6:
				l = append(l, api.Insn{Op: class() | 8 | uint8(r.Intn(13))<<4, Dst: reg(), Src: reg()})
			case 7:
				l = append(l, api.Insn{Op: 0xDC, Dst: reg(), Imm: 32})
			case 8:
				l = append(l, api.Insn{Op: class() | uint8(r.Intn(13))<<4, Dst: reg(), Imm: int32(r.Intn(9) - 4)})
			default:
				l = append(l, api.Insn{Op: class() | 0xB0, Dst: reg(), Imm: int32(r.Intn(9) - 4)})
			}
		}
		l = append(l, api.Insn{Op: 0x95})
		if _, e := insn.Check(l); e == api.OK {
			return l
		}
	}
}

// TestGreatest: P25.1: the rows are such rows, and no greater ones are: from all that may be known down, slot by slot.
func TestGreatest(t *testing.T) {
	r := rand.New(rand.NewSource(1))
	for range 3000 {
		l := random(r)
		rows, e := fold.Known(l)
		if e != api.OK {
			t.Fatal(e)
		}
		if want := slow(l); !reflect.DeepEqual(rows, want) {
			t.Fatalf("P25.1: %s: %s, want %s", told(l), known(rows), known(want))
		}
	}
}

// slow: Known by rounds over all slots; a slot of which nothing came yet knows all.
func slow(l []api.Insn) [][11]api.Val {
	reached, _ := flow.Reached(l)
	parts, _, _ := insn.Subs(l)
	rows, came := make([][11]api.Val, len(l)), make([]bool, len(l))
	for _, p := range parts {
		came[p.From] = reached[p.From]
	}
	for {
		fresh, some := make([][11]api.Val, len(l)), make([]bool, len(l))
		for _, p := range parts {
			some[p.From] = reached[p.From]
		}
		for at := range l {
			if !came[at] {
				continue
			}
			after := afterOne(l, at, rows[at])
			next, _ := flow.Next(l, at)
			for _, to := range next {
				for i := range after {
					if !some[to] {
						fresh[to][i] = after[i]
					} else if fresh[to][i] != after[i] {
						fresh[to][i] = api.Val{}
					}
				}
				some[to] = true
			}
		}
		if reflect.DeepEqual(fresh, rows) && reflect.DeepEqual(some, came) {
			return rows
		}
		rows, came = fresh, some
	}
}

// afterOne: behind one operation, by Fold of a program that sets what is known, and then does it.
func afterOne(l []api.Insn, at int, row [11]api.Val) [11]api.Val {
	var one []api.Insn
	for i, v := range row {
		if v.Kind == api.VNum {
			one = append(one, api.Insn{Op: 0x18, Dst: uint8(i), Imm: int32(uint32(v.Num))}, api.Insn{Imm: int32(uint32(v.Num >> 32))})
		}
	}
	x := l[at]
	w, _ := live.Writes(x)
	if c := x.Op & 7; c != api.Alu && c != api.Alu64 && x.Op != 0x18 {
		for i := range row {
			if w>>i&1 == 1 {
				row[i] = api.Val{}
			}
		}
		return row
	}
	one = append(one, x)
	if x.Op == 0x18 {
		one = append(one, l[at+1])
	}
	one = append(one, api.Insn{Op: 0x95})
	rows, _ := fold.Known(one)
	return rows[len(one)-1]
}

// TestRuns: P25.3: step by step, and what is known is so.
func TestRuns(t *testing.T) {
	r := rand.New(rand.NewSource(2))
	folded := 0
	for range 4000 {
		l := random(r)
		m, e := fold.Fold(l)
		rows, _ := fold.Known(l)
		if _, f := insn.Check(m); e != api.OK || f != api.OK {
			t.Fatalf("P25.3: %s: %d, %d", told(l), e, f)
		}
		if told(m) != told(l) {
			folded++
		}
		env := api.Env{Ctx: make([]byte, api.CtxSize), Draws: []uint32{4, 0, 9}}
		fuel := r.Intn(300)
		object := func(l []api.Insn) api.Object { return api.Object{Progs: []api.Prog{{Name: "p", Insns: l}}} }
		a, x, _ := trace.Run(object(l), 0, env, fuel)
		b, y, _ := trace.Run(object(m), 0, env, fuel)
		if !reflect.DeepEqual(a, b) || fmt.Sprint(x) != fmt.Sprint(y) {
			t.Fatalf("P25.3: %s: %v; %s: %v", told(l), x, told(m), y)
		}
		for _, s := range a {
			for i, v := range rows[s.At] {
				if v.Kind == api.VNum && s.Regs[i] != v {
					t.Fatalf("P25.3: %s: slot %d: r%d is %v, not %v", told(l), s.At, i, s.Regs[i], v)
				}
			}
		}
		checkFolded(t, l, m, rows)
	}
	if folded < 500 {
		t.Errorf("only %d are folded", folded)
	}
}

// checkFolded: P25.2: just the operations that may be are told by what they make.
func checkFolded(t *testing.T, l, m []api.Insn, rows [][11]api.Val) {
	t.Helper()
	reached, _ := flow.Reached(l)
	for at, x := range l {
		class := x.Op & 7
		alu := (class == api.Alu || class == api.Alu64) && x.Op&0xF8 != 0xB0 && reached[at]
		if m[at] == x && alu {
			// It isn't known, or no immediate makes it.
			after := afterOne(l, at, rows[at])[x.Dst]
			if after.Kind == api.VNum && uint64(int64(int32(uint32(after.Num)))) == after.Num {
				t.Fatalf("P25.2: %s: slot %d isn't told by %d", told(l), at, after.Num)
			}
		}
		if m[at] != x && (!alu || m[at] != (api.Insn{Op: 0xB7, Dst: x.Dst, Imm: m[at].Imm})) {
			t.Fatalf("P25.2: %s: %s: slot %d", told(l), told(m), at)
		}
	}
}
