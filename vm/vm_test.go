package vm_test

import (
	"fmt"
	"strings"
	"testing"

	"barbican/api"
	"barbican/text"
	"barbican/vm"
)

// lines: a program of lines that stand behind one another, parted by semicolons.
func lines(t *testing.T, s string) []api.Insn {
	t.Helper()
	l, at, e := text.Parse(strings.ReplaceAll(s, "; ", "\n"))
	if e != api.OK {
		t.Fatalf("line %d of %q", at, s)
	}
	return l
}

func object(t *testing.T, maps []api.MapDef, progs ...string) api.Object {
	t.Helper()
	o := api.Object{Maps: maps}
	for i, p := range progs {
		o.Progs = append(o.Progs, api.Prog{Name: fmt.Sprintf("p%d", i), Insns: lines(t, p)})
	}
	return o
}

func socks() [][]byte {
	var l [][]byte
	for i := range 2 {
		b := make([]byte, api.SockSize)
		for k := range b {
			b[k] = byte(10*i + k)
		}
		l = append(l, b)
	}
	return l
}

func machine(t *testing.T, maps []api.MapDef, progs ...string) *vm.Machine {
	t.Helper()
	m, e := vm.New(object(t, maps, progs...), socks())
	if e != api.OK {
		t.Fatalf("New: %d", e)
	}
	return m
}

// env: a context of rising bytes, three draws, both sockets.
func env() api.Env {
	e := api.Env{Ctx: make([]byte, api.CtxSize), Draws: []uint32{7, 1 << 31, 9}, Socks: []int{1, -1, 0}}
	for i := range e.Ctx {
		e.Ctx[i] = byte(i)
	}
	return e
}

func run(t *testing.T, m *vm.Machine, prog int) api.Outcome {
	t.Helper()
	o, e := m.Run(prog, env(), 100000)
	if e != api.OK {
		t.Fatalf("Run: %d", e)
	}
	return o
}

// The maps of most tests.
const (
	anArray = iota
	aHash
	aProgs
	aRing
	timers
)

func defs() []api.MapDef {
	return []api.MapDef{
		{Kind: api.MArray, Key: 4, Value: 8, Entries: 2}, {Kind: api.MHash, Key: 4, Value: 8, Entries: 2}, {Kind: api.MProgs, Key: 4, Value: 4, Entries: 2},
		{Kind: api.MRing, Entries: 64}, {Kind: api.MHash, Key: 4, Value: 24, Entries: 2, Timer: true},
	}
}

// traps: programs, and how each ends: its trap and slot, or (trap 0) its result.
type ends struct {
	prog string
	trap int
	at   int
	ret  uint64
}

func check(t *testing.T, promise string, l []ends) {
	t.Helper()
	for _, c := range l {
		m := machine(t, defs(), c.prog)
		o := run(t, m, 0)
		if o.Trap != c.trap || o.Ret != c.ret || c.trap != 0 && o.At != c.at {
			t.Errorf("%s: %s: trap %d at %d, ret %d (%x), want trap %d at %d, ret %d", promise, c.prog, o.Trap, o.At, o.Ret, o.Ret, c.trap, c.at, c.ret)
		}
		again := run(t, machine(t, defs(), c.prog), 0)
		if fmt.Sprint(again) != fmt.Sprint(o) {
			t.Errorf("P14.15: %s: %v, then %v", c.prog, o, again)
		}
	}
}

const minus = ^uint64(0)

// TestNew: P14.1.
func TestNew(t *testing.T) {
	o := object(t, nil, "r0 = 0; exit")
	if m, e := vm.New(api.Object{}, nil); m != nil || e != api.ErrObjectProg {
		t.Errorf("P14.1: %d", e)
	}
	if m, e := vm.New(api.Object{}, make([][]byte, 99)); m != nil || e != api.ErrObjectProg {
		t.Errorf("P14.1: the object comes first: %d", e)
	}
	if m, e := vm.New(o, make([][]byte, 17)); m != nil || e != api.ErrSockMany {
		t.Errorf("P14.1: %d", e)
	}
	if m, e := vm.New(o, [][]byte{{1}}); m != nil || e != api.ErrSockSize {
		t.Errorf("P14.1: %d", e)
	}
	m, e := vm.New(o, socks())
	if e != api.OK || m.Now() != 0 || fmt.Sprint(m.Counts()) != "[1 1]" {
		t.Errorf("P14.1: %d, %v", e, m.Counts())
	}
	o.Progs[0].Insns[0].Imm = 77
	if out := run(t, m, 0); out.Ret != 0 {
		t.Error("New keeps what was handed in")
	}
	other, _ := vm.New(o, nil)
	if len(other.Counts()) != 0 || run(t, m, 0).Ret != 0 {
		t.Error("two machines touch one another")
	}
}

// TestEnv: P14.3.
func TestEnv(t *testing.T) {
	m := machine(t, nil, "r0 = 5; exit", "exit")
	long := make([]uint32, 4097)
	many := make([]int, 4097)
	for k, c := range []struct {
		prog int
		e    api.Env
		fuel int
		want api.Errno
	}{
		{0, env(), 2, api.OK}, {0, env(), 0, api.OK}, {1, env(), 5, api.OK}, {2, env(), 5, api.ErrVmEnv}, {-1, env(), 5, api.ErrVmEnv},
		{0, env(), -1, api.ErrVmEnv}, {0, env(), api.MaxFuel, api.OK}, {0, env(), api.MaxFuel + 1, api.ErrVmEnv},
		{0, api.Env{}, 5, api.ErrVmEnv}, {0, api.Env{Ctx: make([]byte, 63)}, 5, api.ErrVmEnv}, {0, api.Env{Ctx: make([]byte, 65)}, 5, api.ErrVmEnv}, {0, api.Env{Ctx: make([]byte, 64)}, 5, api.OK},
		{0, api.Env{Ctx: make([]byte, 64), Draws: long}, 5, api.ErrVmEnv}, {0, api.Env{Ctx: make([]byte, 64), Draws: long[1:]}, 5, api.OK},
		{0, api.Env{Ctx: make([]byte, 64), Socks: many}, 5, api.ErrVmEnv}, {0, api.Env{Ctx: make([]byte, 64), Socks: many[1:]}, 5, api.OK},
		{0, api.Env{Ctx: make([]byte, 64), Socks: []int{1}}, 5, api.OK}, {0, api.Env{Ctx: make([]byte, 64), Socks: []int{0, 2}}, 5, api.ErrVmEnv}, {0, api.Env{Ctx: make([]byte, 64), Socks: []int{-1 << 63, -1}}, 5, api.OK},
	} {
		o, e := m.Run(c.prog, c.e, c.fuel)
		if e != c.want || e != api.OK && fmt.Sprint(o) != fmt.Sprint(api.Outcome{}) {
			t.Errorf("P14.3: row %d: %v, %d, want %d", k, o, e, c.want)
		}
		if c.prog == 0 {
			l, e := m.Tick(0, c.e, c.fuel)
			if e != c.want || len(l) != 0 {
				t.Errorf("P14.3: row %d: Tick: %v, %d", k, l, e)
			}
		}
	}
	for fuel, want := range map[int]api.Outcome{0: {Trap: api.TrapFuel}, 1: {Trap: api.TrapFuel, At: 1, Steps: 1}, 2: {At: 1, Ret: 5, Steps: 2}} {
		if o, _ := m.Run(0, env(), fuel); fmt.Sprint(o) != fmt.Sprint(want) {
			t.Errorf("P14.4: fuel %d: %v, want %v", fuel, o, want)
		}
	}
	m.Tick(9, env(), 0)
	if l, e := m.Tick(8, env(), 0); len(l) != 0 || e != api.ErrWheelTime || m.Now() != 9 {
		t.Errorf("P14.3: back: %v, %d, %d", l, e, m.Now())
	}
	if _, e := m.Tick(8, api.Env{}, 0); e != api.ErrVmEnv {
		t.Errorf("P14.3: %d", e)
	}
}

// TestOutside: P14.2.
func TestOutside(t *testing.T) {
	m := machine(t, defs(), "r0 = 0; exit", "r0 = 0; exit")
	key, v := []byte{1, 0, 0, 0}, []byte("abcdefgh")
	for _, i := range []int{-1, 5, 1 << 40} {
		_, e1 := m.Lookup(i, key)
		_, e2 := m.Keys(i)
		_, e3 := m.Read(i)
		_, e4 := m.Used(i)
		for _, e := range []api.Errno{e1, e2, e3, e4, m.Update(i, key, v, 9), m.Delete(i, nil), m.Set(i, 0, 0)} {
			if e != api.ErrVmEnv {
				t.Errorf("P14.2: map %d: %d", i, e)
			}
		}
	}
	_, e1 := m.Lookup(aRing, key)
	_, e2 := m.Keys(aRing)
	_, e3 := m.Read(anArray)
	_, e4 := m.Used(aProgs)
	_, e5 := m.Keys(aProgs)
	_, e6 := m.Lookup(aProgs, key)
	for k, e := range []api.Errno{e1, e2, e3, e4, e5, e6, m.Update(aRing, key, v, 0), m.Delete(aRing, key), m.Set(aRing, 0, 0), m.Set(aHash, 0, 0), m.Delete(anArray, key), m.Update(aProgs, key, key, 0)} {
		if e != api.ErrMapsOp {
			t.Errorf("P14.2: %d: %d", k, e)
		}
	}
	if m.Set(aProgs, 0, 2) != api.ErrVmEnv || m.Set(aProgs, 0, -2) != api.ErrVmEnv || m.Set(aProgs, 2, 1) != api.ErrMapsKey || m.Set(aProgs, 1, 1) != api.OK || m.Set(aProgs, 1, -1) != api.OK || m.Set(aHash, 0, 9) != api.ErrVmEnv {
		t.Error("P14.2: Set")
	}
	if m.Update(aHash, key, v, 2) != api.ErrMapsNone || m.Update(aHash, key, v, 1) != api.OK || m.Update(anArray, key, v, 0) != api.OK || m.Update(anArray, key, v[1:], 0) != api.ErrMapsKey {
		t.Error("P14.2: Update")
	}
	for _, i := range []int{anArray, aHash} {
		if b, e := m.Lookup(i, key); string(b) != string(v) || e != api.OK {
			t.Errorf("P14.2: Lookup: %s, %d", b, e)
		}
	}
	if l, e := m.Keys(aHash); fmt.Sprint(l) != "[[1 0 0 0]]" || e != api.OK {
		t.Errorf("P14.2: Keys: %v, %d", l, e)
	}
	if m.Delete(aHash, key) != api.OK || m.Delete(aHash, key) != api.ErrMapsNone {
		t.Error("P14.2: Delete")
	}
	if l, e := m.Read(aRing); len(l) != 0 || e != api.OK {
		t.Error("P14.2: Read")
	}
	if n, e := m.Used(aRing); n != 0 || e != api.OK {
		t.Error("P14.2: Used")
	}
}

// TestExamples: the chapter's, and ends: P14.4.
func TestExamples(t *testing.T) {
	check(t, "P14.4", []ends{
		{"r0 = 1; exit", 0, 1, 1},
		{"r0 = *(u32 *)(r1 +60); exit", 0, 0, 0x3F3E3D3C},
		{"r0 = *(u32 *)(r1 +61); exit", api.TrapBounds, 0, 0},
		{"r0 = r2; exit", api.TrapUninit, 0, 0},
		{"exit", api.TrapRet, 0, 0},
		{"r0 = r1; exit", api.TrapRet, 1, 0},
		{"r0 = -1; exit", 0, 0, minus},
		{"r1 = map 3; r2 = 8; call 9; r0 = 0; exit", api.TrapRef, 5, 0},
		{"r0 = 0; goto -1", api.TrapFuel, 1, 0},
		{"r0 = r10; r0 += 0; exit", api.TrapRet, 2, 0},
	})
	m := machine(t, defs(), "r0 = 1; exit")
	if o := run(t, m, 0); o.Steps != 2 || o.At != 1 || len(o.Events) != 0 {
		t.Errorf("P14.4: %v", o)
	}
	for reg := 2; reg <= 9; reg++ {
		check(t, "P14.4", []ends{{fmt.Sprintf("r0 = r%d; exit", reg), api.TrapUninit, 0, 0}})
	}
	check(t, "P14.4", []ends{{"r0 = r0; exit", api.TrapUninit, 0, 0}})
}

// TestArithmetic: P14.5.
func TestArithmetic(t *testing.T) {
	check(t, "P14.5", []ends{
		{"r0 = 5; r0 += -7; exit", 0, 0, minus - 1},
		{"w0 = -1; exit", 0, 0, 0xFFFFFFFF},
		{"r0 = -1; w0 += 0; exit", 0, 0, 0xFFFFFFFF},
		{"r0 = -2; r0 &= -1; exit", 0, 0, minus - 1},
		{"r0 = 81985529216486895 ll; exit", 0, 0, 0x0123456789ABCDEF},
		{"r0 = 81985529216486895 ll; r0 = be16 r0; exit", 0, 0, 0xEFCD},
		{"r0 = 81985529216486895 ll; r0 = le32 r0; exit", 0, 0, 0x89ABCDEF},
		{"r0 = 81985529216486895 ll; r0 = swap64 r0; exit", 0, 0, 0xEFCDAB8967452301},
		{"r2 = 81985529216486895 ll; r2 = be32 r2; r0 = r2; exit", 0, 0, 0xEFCDAB89},
		{"r0 = 5; r0 = -r0; exit", 0, 0, minus - 4},
		{"r0 = 7; r2 = 0; r0 /= r2; exit", 0, 0, 0},
		{"r0 = 7; r2 = 0; r0 %= r2; exit", 0, 0, 7},
		// What was never written.
		{"r0 += 1; exit", api.TrapUninit, 0, 0}, {"r0 = 1; r0 += r2; exit", api.TrapUninit, 1, 0}, {"r0 = -r0; exit", api.TrapUninit, 0, 0}, {"r0 = le16 r0; exit", api.TrapUninit, 0, 0},
		{"w0 = w2; exit", api.TrapUninit, 0, 0}, {"r2 += r1; exit", api.TrapUninit, 0, 0}, {"r1 += r2; exit", api.TrapUninit, 0, 0}, {"r0 *= r1; exit", api.TrapUninit, 0, 0},
		// Pointers.
		{"r2 = r1; r2 += 4; r0 = *(u8 *)(r2 +0); exit", 0, 0, 4},
		{"r2 = 4; r2 += r1; r0 = *(u8 *)(r2 +0); exit", 0, 0, 4},
		{"r2 = r1; r2 += 9; r3 = 4; r2 -= r3; r0 = *(u8 *)(r2 +0); exit", 0, 0, 5},
		{"r1 -= -4; r0 = *(u8 *)(r1 +0); exit", 0, 0, 4},
		{"w1 = w1; exit", api.TrapPtr, 0, 0}, {"w1 += 1; exit", api.TrapPtr, 0, 0}, {"r1 *= 1; exit", api.TrapPtr, 0, 0}, {"r1 = -r1; exit", api.TrapPtr, 0, 0}, {"r1 = be64 r1; exit", api.TrapPtr, 0, 0},
		{"r1 += r10; exit", api.TrapPtr, 0, 0}, {"r1 -= r1; exit", api.TrapPtr, 0, 0}, {"r2 = 5; r2 -= r1; exit", api.TrapPtr, 1, 0}, {"r2 = 5; w2 += w1; exit", api.TrapPtr, 1, 0}, {"r1 |= 0; exit", api.TrapPtr, 0, 0},
		{"r2 = map 0; r2 += 0; exit", api.TrapPtr, 2, 0}, {"r2 = map 0; r3 = 0; r3 += r2; exit", api.TrapPtr, 3, 0}, {"r2 = 5; r3 = 6; r2 &= r1; exit", api.TrapPtr, 2, 0},
		{"r1 = 5; r0 = r1; exit", 0, 0, 5}, {"w1 = 5; r0 = r1; exit", 0, 0, 5},
		// How far.
		{"r2 = 536870912; r1 += r2; r0 = 1; exit", 0, 0, 1}, {"r2 = 536870913; r1 += r2; exit", api.TrapPtr, 1, 0}, {"r1 += -536870912; r0 = 1; exit", 0, 0, 1}, {"r1 += -536870913; exit", api.TrapPtr, 0, 0},
		{"r1 += 536870912; r1 += 1; exit", api.TrapPtr, 1, 0}, {"r1 += 536870912; r1 += -1; r0 = 1; exit", 0, 0, 1}, {"r1 -= 536870912; r0 = 1; exit", 0, 0, 1}, {"r1 -= -536870913; exit", api.TrapPtr, 0, 0},
		{"r1 -= 536870912; r1 -= 1; exit", api.TrapPtr, 1, 0}, {"r2 = 9223372036854775808 ll; r1 -= r2; exit", api.TrapPtr, 2, 0}, {"r2 = 9223372036854775808 ll; r1 += r2; exit", api.TrapPtr, 2, 0},
		{"r1 += 536870912; r0 = *(u8 *)(r1 +1); exit", api.TrapPtr, 1, 0}, {"r1 += 536870912; r0 = *(u8 *)(r1 +0); exit", api.TrapBounds, 1, 0},
		{"r2 = func +3; r2 += 1; exit; exit", api.TrapPtr, 2, 0},
	})
}

// TestCompare: P14.6.
func TestCompare(t *testing.T) {
	yes := "; r0 = 0; exit; r0 = 1; exit"
	check(t, "P14.6", []ends{
		{"r2 = 5; if r2 == 5 goto +2" + yes, 0, 0, 1}, {"r2 = 5; if r2 != 5 goto +2" + yes, 0, 0, 0}, {"r2 = -1; if r2 > 5 goto +2" + yes, 0, 0, 1}, {"r2 = -1; if r2 s> 5 goto +2" + yes, 0, 0, 0},
		{"r2 = 4294967301 ll; if w2 == 5 goto +2" + yes, 0, 0, 1}, {"r2 = 4294967301 ll; if r2 == 5 goto +2" + yes, 0, 0, 0}, {"r2 = 5; r3 = 5; if r2 == r3 goto +2" + yes, 0, 0, 1},
		{"if r2 == 0 goto +2" + yes, api.TrapUninit, 0, 0}, {"r2 = 0; if r2 == r3 goto +2" + yes, api.TrapUninit, 1, 0}, {"if r1 == r3 goto +2" + yes, api.TrapUninit, 0, 0},
		{"if r1 == 0 goto +2" + yes, 0, 0, 0}, {"if r1 != 0 goto +2" + yes, 0, 0, 1}, {"if r10 != 0 goto +2" + yes, 0, 0, 1},
		{"if r1 == 1 goto +2" + yes, api.TrapPtr, 0, 0}, {"if w1 == 0 goto +2" + yes, api.TrapPtr, 0, 0}, {"if r1 > 0 goto +2" + yes, api.TrapPtr, 0, 0}, {"r2 = 0; if r1 == r2 goto +2" + yes, api.TrapPtr, 1, 0},
		{"if r1 == r1 goto +2" + yes, api.TrapPtr, 0, 0}, {"r2 = 0; if r2 == r1 goto +2" + yes, api.TrapPtr, 1, 0}, {"r2 = map 0; if r2 != 0 goto +2" + yes, 0, 0, 1},
		{"goto +2; r0 = 3; exit; goto -3", 0, 0, 3},
	})
}

// TestMemory: P14.7.
func TestMemory(t *testing.T) {
	lookup := "*(u32 *)(r10 -4) = 1; r2 = r10; r2 += -4; r1 = map 0; call 1; "
	find := "*(u64 *)(r10 -16) = 0; *(u64 *)(r10 -8) = 0; r2 = r10; r2 += -16; r3 = 12; call 13; r6 = r0; "
	check(t, "P14.7", []ends{
		{"*(u64 *)(r10 -8) = -2; r0 = *(u64 *)(r10 -8); exit", 0, 0, minus - 1}, {"*(u64 *)(r10 -8) = -2; r0 = *(u16 *)(r10 -6); exit", 0, 0, 0xFFFF},
		{"*(u64 *)(r10 -8) = r1; r2 = *(u64 *)(r10 -8); r0 = *(u8 *)(r2 +3); exit", 0, 0, 3}, {"*(u64 *)(r10 -8) = r1; r2 = *(u32 *)(r10 -8); exit", api.TrapSpill, 1, 0},
		{"*(u32 *)(r10 -8) = r1; exit", api.TrapSpill, 0, 0}, {"r0 = *(u8 *)(r10 -8); exit", api.TrapUninit, 0, 0}, {"*(u64 *)(r10 -8) = r2; exit", api.TrapUninit, 0, 0},
		{"*(u64 *)(r10 -7) = 0; exit", api.TrapBounds, 0, 0}, {"*(u64 *)(r10 -520) = 0; exit", api.TrapBounds, 0, 0}, {"*(u64 *)(r10 -512) = 0; r0 = *(u64 *)(r10 -512); exit", 0, 0, 0},
		{"r0 = *(u8 *)(r1 -1); exit", api.TrapBounds, 0, 0}, {"r0 = *(u8 *)(r1 +64); exit", api.TrapBounds, 0, 0}, {"r0 = *(u8 *)(r1 +63); exit", 0, 0, 63},
		{"*(u8 *)(r1 +0) = 0; exit", api.TrapWrite, 0, 0}, {"*(u8 *)(r1 +64) = 0; exit", api.TrapBounds, 0, 0}, {"*(u8 *)(r1 +64) = r2; exit", api.TrapUninit, 0, 0},
		{"r2 = 5; r0 = *(u8 *)(r2 +0); exit", api.TrapNum, 1, 0}, {"r0 = *(u8 *)(r2 +0); exit", api.TrapUninit, 0, 0}, {"r2 = map 0; r0 = *(u8 *)(r2 +0); exit", api.TrapPtr, 2, 0},
		{"r2 = func +3; r0 = *(u8 *)(r2 +0); exit; exit", api.TrapPtr, 2, 0}, {"r2 = 5; *(u8 *)(r2 +0) = r3; exit", api.TrapNum, 1, 0}, {"r2 = map 0; *(u8 *)(r2 +0) = r3; exit", api.TrapPtr, 2, 0}, {"*(u8 *)(r2 +0) = 1; exit", api.TrapUninit, 0, 0},
		{lookup + "*(u64 *)(r0 +0) = 258; r0 = *(u8 *)(r0 +1); exit", 0, 0, 1}, {lookup + "r0 = *(u8 *)(r0 +8); exit", api.TrapBounds, 6, 0}, {lookup + "*(u64 *)(r0 +0) = r10; exit", api.TrapSpill, 6, 0},
		{find + "r7 = *(u32 *)(r6 +4); r1 = r6; call 14; r0 = r7; exit", 0, 0, 0x11100F0E}, {find + "r0 = *(u16 *)(r6 +2); exit", api.TrapType, 7, 0}, {find + "r0 = *(u8 *)(r6 +20); exit", api.TrapType, 7, 0},
		{find + "r1 = r6; call 14; r0 = *(u32 *)(r6 +4); exit", api.TrapDead, 9, 0}, {find + "*(u32 *)(r6 +0) = 1; exit", api.TrapWrite, 7, 0}, {find + "*(u32 *)(r6 +0) = r9; exit", api.TrapUninit, 7, 0},
		{find + "r6 += 0; exit", api.TrapPtr, 7, 0}, {find + "r1 = r6; call 14; *(u32 *)(r6 +0) = 1; exit", api.TrapWrite, 9, 0},
	})
}

// TestCalls: P14.8.
func TestCalls(t *testing.T) {
	deep := func(n int) string {
		return strings.Repeat("call +1; exit; ", n) + "r0 = 5; exit"
	}
	check(t, "P14.8", []ends{
		{"r1 = 3; r2 = 4; r6 = 9; call +2; r0 += r6; exit; r0 = r1; r0 += r2; r6 = 0; exit", 0, 0, 16},
		{"r6 = 1; call +1; exit; r0 = r6; exit", api.TrapUninit, 3, 0}, {"r0 = 1; call +1; exit; r0 = r0; exit", api.TrapUninit, 3, 0}, {"call +2; r0 = r1; exit; r0 = 1; exit", api.TrapUninit, 1, 0},
		{"call +1; exit; exit", api.TrapRet, 1, 0}, {"call +2; r0 = 7; exit; exit", 0, 0, 7},
		{"r1 = r10; call +3; r0 = *(u64 *)(r10 -8); exit; exit; *(u64 *)(r1 -8) = 6; *(u64 *)(r10 -8) = 5; exit", 0, 0, 6},
		{"call +3; r0 = *(u8 *)(r0 -8); exit; exit; *(u64 *)(r10 -8) = 1; r0 = r10; exit", api.TrapDead, 1, 0},
		{deep(7), 0, 0, 5}, {deep(8), api.TrapDepth, 14, 0},
	})
}

// TestLoops: P14.8, P14.11: callbacks.
func TestLoops(t *testing.T) {
	sum := "*(u64 *)(r10 -8) = 0; r1 = %s; r2 = func +6; r3 = r10; r3 += -8; call 7; r9 = r0; r0 = *(u64 *)(r10 -8); exit; r3 = *(u64 *)(r2 +0); r3 += r1; *(u64 *)(r2 +0) = r3; r0 = 0; exit"
	l := []ends{}
	for n, want := range map[string]uint64{"0": 0, "1": 0, "5": 10, "1024": 1023 * 512, "1025": 0, "-1": 0} {
		l = append(l, ends{strings.Replace(fmt.Sprintf(sum, n), "+6", "+7", 1), 0, 0, want})
	}
	check(t, "P14.11", l)
	body := func(n, f string) string { return "r1 = " + n + "; r2 = func +4; r3 = 0; call 7; exit; " + f }
	check(t, "P14.11", []ends{
		{body("9", "r0 = 0; exit"), 0, 0, 9}, {body("9", "r0 = r1; exit"), 0, 0, 2}, {body("9", "r0 = 1; exit"), 0, 0, 1}, {body("0", "exit"), 0, 0, 0}, {body("1025", "exit"), 0, 0, minus - 6},
		{body("1", "exit"), api.TrapRet, 6, 0}, {body("1", "r0 = r10; exit"), api.TrapRet, 7, 0}, {body("1", "r1 = map 3; r2 = 8; call 9; r0 = 0; exit"), api.TrapRef, 11, 0},
		{body("3", "r1 = map 3; r2 = 8; call 9; r1 = r0; call 10; r0 = 0; exit"), 0, 0, 3},
		{body("1", "r0 = r3; exit"), api.TrapUninit, 6, 0}, {body("1", "r0 = r2; exit"), 0, 0, 1}, {body("1", "call +1; exit; r0 = 0; exit"), 0, 0, 1},
		{"r1 = 1; r2 = func +4; r3 = 5; call 7; exit; r0 = 0; exit", api.TrapArg, 4, 0}, {"r1 = 1; r2 = func +5; r3 = map 0; call 7; exit; exit", api.TrapArg, 5, 0},
		{"r1 = 1; r2 = 2; r3 = 0; call 7; exit", api.TrapArg, 3, 0}, {"r1 = r10; r2 = 2; r3 = 0; call 7; exit", api.TrapArg, 3, 0},
		// A callback of another set of references: one is let go, another one taken.
		{"r1 = map 3; r2 = 8; call 9; *(u64 *)(r10 -8) = r0; r1 = 1; r2 = func +4; r3 = r10; call 7; exit; r6 = r2; r1 = *(u64 *)(r2 -8); call 11; r1 = map 3; r2 = 8; call 9; r0 = 0; exit", api.TrapRef, 19, 0},
	})
	check(t, "P14.11", []ends{
		// Frames of callbacks count: eight at most.
		{"call +1; exit; call +1; exit; call +1; exit; call +1; exit; call +1; exit; call +1; exit; r1 = 1; r2 = func +4; r3 = 0; call 7; exit; r0 = 0; exit", 0, 0, 1},
		{"call +1; exit; call +1; exit; call +1; exit; call +1; exit; call +1; exit; call +1; exit; call +1; exit; r1 = 1; r2 = func +4; r3 = 0; call 7; exit; r0 = 0; exit", api.TrapDepth, 18, 0},
	})
}

// TestWatch: P14.1.
func TestWatch(t *testing.T) {
	m := machine(t, defs(), "r2 = 7; call +1; exit; r0 = r2; exit")
	var steps []api.Step
	m.Watch(func(s api.Step) { steps = append(steps, s) })
	o := run(t, m, 0)
	m.Watch(nil)
	run(t, m, 0)
	if len(steps) != o.Steps || len(steps) != 5 {
		t.Fatalf("P14.1: %d steps", len(steps))
	}
	for i, want := range [][2]int{{0, 1}, {1, 1}, {3, 2}, {4, 2}, {2, 1}} {
		if s := steps[i]; s.At != want[0] || s.Frames != want[1] || s.Prog != 0 {
			t.Errorf("P14.1: step %d: %+v", i, s)
		}
	}
	if s := steps[0]; s.Regs[1] != (api.Val{Kind: api.VCtx}) || s.Regs[10].Kind != api.VStack || s.Regs[10].Off != 0 || s.Regs[2] != (api.Val{}) {
		t.Errorf("P14.4: %+v", s.Regs)
	}
	if s := steps[1]; s.Regs[2] != (api.Val{Kind: api.VNum, Num: 7}) {
		t.Errorf("P14.1: ahead of the step: %+v", s.Regs)
	}
	if s := steps[4]; s.Regs[1] != (api.Val{}) || s.Regs[0].Num != 7 {
		t.Errorf("P14.8: behind the call: %+v", s.Regs)
	}
	l, _ := m.Run(0, env(), 3)
	if l.Trap != api.TrapFuel {
		t.Errorf("%+v", l)
	}
}
