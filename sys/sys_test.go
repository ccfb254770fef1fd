package sys_test

import (
	"fmt"
	"math/rand"
	"reflect"
	"strings"
	"testing"

	"barbican/api"
	"barbican/object"
	"barbican/sys"
	"barbican/text"
	"barbican/verify"
	"barbican/vm"
)

func lines(t *testing.T, s string) []api.Insn {
	t.Helper()
	l, at, e := text.Parse(strings.ReplaceAll(s, "; ", "\n"))
	if e != api.OK {
		t.Fatalf("line %d of %q", at, s)
	}
	return l
}

func made(t *testing.T, maps []api.MapDef, progs ...string) (api.Object, []byte) {
	t.Helper()
	o := api.Object{Maps: maps}
	for i, p := range progs {
		o.Progs = append(o.Progs, api.Prog{Name: fmt.Sprintf("p%d", i), Insns: lines(t, p)})
	}
	b, e := object.Encode(o)
	if e != api.OK {
		t.Fatal(e)
	}
	return o, b
}

func env() api.Env { return api.Env{Ctx: make([]byte, api.CtxSize)} }

// TestLoad: P18.1.
func TestLoad(t *testing.T) {
	o, b := made(t, []api.MapDef{{Kind: api.MArray, Key: 4, Value: 8, Entries: 2}}, "r0 = 0; exit", "call 4; exit")
	s, v, e := sys.Load(b, [][]byte{make([]byte, api.SockSize)})
	if s == nil || e != api.OK || len(v) != 2 || v[0].Why != api.OK || v[1].Why != api.OK || v[1].Looked < 2 {
		t.Fatalf("P18.1: %v, %d", v, e)
	}
	for i := range o.Progs {
		want, _ := verify.Check(o, i)
		if v[i] != want {
			t.Errorf("P18.1: %+v, want %+v", v[i], want)
		}
	}
	b[8] = 0xEE
	got := s.Object()
	if !reflect.DeepEqual(got, o) {
		t.Errorf("P18.1: %+v", got)
	}
	got.Progs[0].Insns[0].Imm = 7
	got.Maps[0].Value = 99
	if !reflect.DeepEqual(s.Object(), o) {
		t.Error("Object shares memory")
	}
	for name, want := range map[string]int{"p0": 0, "p1": 1} {
		if i, e := s.Find(name); i != want || e != api.OK {
			t.Errorf("P18.1: %s: %d, %d", name, i, e)
		}
	}
	for _, name := range []string{"", "p2", "P0"} {
		if i, e := s.Find(name); i != 0 || e != api.ErrSysNone {
			t.Errorf("P18.1: %s: %d, %d", name, i, e)
		}
	}
	if s.Machine().Update(0, []byte{1, 0, 0, 0}, make([]byte, 8), 0) != api.OK || fmt.Sprint(s.Machine().Counts()) != "[1]" {
		t.Error("P18.1: Machine")
	}
}

// TestRefused: P18.1.
func TestRefused(t *testing.T) {
	_, good := made(t, nil, "r0 = 0; exit")
	_, bad := made(t, nil, "r0 = 0; exit", "exit", "r0 = 0; exit; exit")
	for k, c := range []struct {
		b     []byte
		socks [][]byte
		want  api.Errno
		why   []api.Errno
	}{
		{nil, nil, api.ErrObjectForm, nil}, {make([]byte, 65537), nil, api.ErrObjectLong, nil}, {good[:len(good)-1], make([][]byte, 17), api.ErrObjectForm, nil},
		{good, make([][]byte, 17), api.ErrSockMany, nil}, {good, [][]byte{nil}, api.ErrSockSize, nil}, {bad, [][]byte{nil}, api.ErrSockSize, nil},
		{bad, nil, api.ErrSysArg, []api.Errno{0, api.ErrVerifyRet, api.ErrFlowReach}},
	} {
		s, v, e := sys.Load(c.b, c.socks)
		if s != nil || e != c.want || len(v) != len(c.why) {
			t.Errorf("P18.1: row %d: %v, %d", k, v, e)
			continue
		}
		for i, why := range c.why {
			if v[i].Why != why {
				t.Errorf("P18.1: row %d: %+v", k, v)
			}
		}
	}
}

// TestRun: P18.2.
func TestRun(t *testing.T) {
	o, b := made(t, []api.MapDef{{Kind: api.MProgs, Key: 4, Value: 4, Entries: 1}}, "r0 = 0; r1 = 100; r0 += 2; r1 -= 1; if r1 != 0 goto -3; exit", "r2 = map 0; r3 = 0; call 6; exit", "r0 = *(u8 *)(r1 +0); exit")
	s, _, e := sys.Load(b, nil)
	if e != api.OK {
		t.Fatal(e)
	}
	var most uint64
	for i := range o.Progs {
		n, _ := verify.Bound(o, i)
		most = max(most, n)
	}
	if s.Fuel() != int(most)*9 || most < 303 {
		t.Errorf("P18.2: fuel %d, bound %d", s.Fuel(), most)
	}
	if out, e := s.Run(0, env()); e != api.OK || out.Ret != 200 || out.Steps != 303 {
		t.Errorf("P18.2: %v, %d", out, e)
	}
	s.Machine().Set(0, 0, 1)
	if out, e := s.Run(1, env()); e != api.OK || out.Trap != 0 || out.Ret != ^uint64(1) {
		t.Errorf("P18.2: %v, %d", out, e)
	}
	for _, c := range []struct {
		prog int
		e    api.Env
	}{{-1, env()}, {3, env()}, {0, api.Env{}}, {0, api.Env{Ctx: make([]byte, 64), Socks: []int{0}}}} {
		if out, e := s.Run(c.prog, c.e); e != api.ErrVmEnv || out.Steps != 0 {
			t.Errorf("P18.2: %v, %d", out, e)
		}
	}
	if l, e := s.Tick(9, env()); len(l) != 0 || e != api.OK || s.Machine().Now() != 9 {
		t.Errorf("P18.2: %v, %d", l, e)
	}
	if _, e := s.Tick(8, env()); e != api.ErrWheelTime {
		t.Errorf("P18.2: %d", e)
	}
	if _, e := s.Tick(10, api.Env{}); e != api.ErrVmEnv {
		t.Errorf("P18.2: %d", e)
	}
	// The same as a machine of its own: P40.4.
	m, _ := vm.New(o, nil)
	m.Set(0, 0, 1)
	for i := range o.Progs {
		a, _ := s.Run(i, env())
		b, _ := m.Run(i, env(), s.Fuel())
		if fmt.Sprint(a) != fmt.Sprint(b) {
			t.Errorf("P40.4: %v, %v", a, b)
		}
	}
}

// family: the families of P17.6 in one object.
func family(t *testing.T) (api.Object, []byte) {
	maps := []api.MapDef{
		{Kind: api.MArray, Key: 4, Value: 16, Entries: 3}, {Kind: api.MRing, Entries: 1024}, {Kind: api.MProgs, Key: 4, Value: 4, Entries: 4},
		{Kind: api.MArray, Key: 4, Value: 24, Entries: 2, Timer: true}, {Kind: api.MHash, Key: 4, Value: 8, Entries: 2},
	}
	return made(t, maps,
		"r0 = *(u32 *)(r1 +4); exit",
		"*(u64 *)(r10 -8) = 77; r0 = *(u64 *)(r10 -8); exit",
		"r0 = 0; r1 = 1000; r0 += 3; r1 -= 1; if r1 != 0 goto -3; exit",
		"*(u64 *)(r10 -8) = r1; r2 = *(u64 *)(r10 -8); r0 = *(u32 *)(r2 +4); exit",
		"r6 = r1; *(u32 *)(r10 -4) = 2; r2 = r10; r2 += -4; r1 = map 0; call 1; if r0 == 0 goto +1; r0 = *(u8 *)(r0 +9); exit",
		"r6 = *(u32 *)(r1 +0); *(u32 *)(r10 -4) = 0; r2 = r10; r2 += -4; r1 = map 0; call 1; if r0 == 0 goto +4; if r6 > 12 goto +2; r0 += r6; goto +2; r0 = 0; exit; r0 = *(u8 *)(r0 +3); exit",
		"r1 = 5; call +1; exit; r0 = r1; r0 += 6; exit",
		"*(u64 *)(r10 -8) = 0; r1 = 100; r2 = func +6; r3 = r10; r3 += -8; call 7; r0 = *(u64 *)(r10 -8); exit; r3 = *(u64 *)(r2 +0); r3 += r1; *(u64 *)(r2 +0) = r3; r0 = 0; exit",
		"r1 = map 1; r2 = 8; call 9; if r0 == 0 goto +4; *(u8 *)(r0 +7) = 9; r1 = r0; call 10; goto +0; r0 = 0; exit",
		"*(u64 *)(r10 -16) = 0; *(u64 *)(r10 -8) = 0; r2 = r10; r2 += -16; r3 = 12; call 13; if r0 == 0 goto +5; r6 = *(u32 *)(r0 +8); r1 = r0; call 14; r0 = r6; exit; r0 = 0; exit",
		"r1 = map 1; r2 = 8; r3 = r10; r3 += -16; call 19; r1 = r10; r1 += -16; r2 = 0; r3 = 1; call 25; if r0 == 0 goto +1; *(u8 *)(r0 +0) = 7; r1 = r10; r1 += -16; call 20; r0 = 0; exit",
		"r1 = r10; r1 += -16; r2 = 0; r3 = 10; call 26; r6 = 0; r1 = r10; r1 += -16; call 27; if r0 == 0 goto +3; r1 = *(u32 *)(r0 +0); r6 += r1; goto -7; r1 = r10; r1 += -16; call 28; r0 = r6; exit",
		"r2 = map 2; r3 = 1; call 6; r0 = 4; exit",
		"*(u32 *)(r10 -4) = 0; r2 = r10; r2 += -4; r1 = map 3; call 1; if r0 == 0 goto +12; r6 = r0; r1 = r6; r2 = map 3; call 15; r1 = r6; r2 = func +7; call 16; r1 = r6; r2 = 5; call 17; r0 = 0; exit; r0 = 0; exit",
		"*(u32 *)(r10 -4) = 3; *(u64 *)(r10 -16) = 8; r1 = map 4; r2 = r10; r2 += -4; r3 = r10; r3 += -16; r4 = 0; call 2; exit",
		"r1 = map 1; call 12; exit",
	)
}

// TestFamilies: P40.6.
func TestFamilies(t *testing.T) {
	_, b := family(t)
	s, v, e := sys.Load(b, [][]byte{[]byte("abcdefghijklmnopqrst")})
	if e != api.OK {
		t.Fatalf("P40.6: %v, %d", v, e)
	}
	ctx := env()
	ctx.Ctx[4] = 33
	ctx.Socks = []int{0}
	s.Machine().Update(0, []byte{2, 0, 0, 0}, []byte("0123456789abcdef"), 0)
	s.Machine().Update(0, []byte{0, 0, 0, 0}, []byte("0123456789abcdef"), 0)
	for i, want := range []uint64{33, 77, 3000, 33, '9', '3', 11, 4950, 0, 'l'<<24 | 'k'<<16 | 'j'<<8 | 'i', 0, 45, 4, 0, 0, 32} {
		if out, e := s.Run(i, ctx); e != api.OK || out.Trap != 0 || out.Ret != want {
			t.Errorf("P40.6: program %d: %v, want %d", i, out, want)
		}
	}
	if l, _ := s.Machine().Read(1); fmt.Sprint(l) != "[[0 0 0 0 0 0 0 9] [7 0 0 0 0 0 0 0]]" {
		t.Errorf("P40.6: %v", l)
	}
	if l, _ := s.Tick(5, ctx); len(l) != 1 || l[0].Trap != 0 || l[0].Ret != 0 {
		t.Errorf("P40.6: %v", l)
	}
	if l, _ := s.Machine().Keys(4); len(l) != 1 {
		t.Errorf("P40.6: %v", l)
	}
}

// TestWhole: P40.1, P40.2, P40.3 of what is done at random with a system.
func TestWhole(t *testing.T) {
	r := rand.New(rand.NewSource(1))
	for range 60 {
		o, b := family(t)
		s, _, e := sys.Load(b, [][]byte{make([]byte, 20), make([]byte, 20)})
		if e != api.OK {
			t.Fatal(e)
		}
		m := s.Machine()
		for range 200 {
			x := env()
			r.Read(x.Ctx)
			for range r.Intn(4) {
				x.Draws, x.Socks = append(x.Draws, r.Uint32()), append(x.Socks, r.Intn(3)-1)
			}
			used, _ := m.Used(1)
			var l []api.Outcome
			switch r.Intn(6) {
			case 0:
				m.Set(2, r.Intn(4), r.Intn(len(o.Progs)))
			case 1:
				m.Update(4, []byte{byte(r.Intn(4)), 0, 0, 0}, make([]byte, 8), uint64(r.Intn(4)))
			case 2:
				m.Read(1)
				continue
			case 3:
				l, _ = s.Tick(m.Now()+uint64(r.Intn(6)), x)
			default:
				out, _ := s.Run(r.Intn(len(o.Progs)), x)
				l = append(l, out)
			}
			for _, out := range l {
				checkOutcome(t, out, s.Fuel())
			}
			if now, _ := m.Used(1); now < used || fmt.Sprint(m.Counts()) != "[1 1]" {
				t.Fatalf("P40.3: %d used, %v", now, m.Counts())
			}
		}
	}
}

func checkOutcome(t *testing.T, out api.Outcome, fuel int) {
	t.Helper()
	if out.Trap != 0 || out.Steps > fuel {
		t.Fatalf("P40.1: %v", out)
	}
	held := map[int]bool{}
	for _, e := range out.Events {
		if e.Release != held[e.Id] {
			t.Fatalf("P40.3: %v", out.Events)
		}
		held[e.Id] = !e.Release
	}
	for id, is := range held {
		if is {
			t.Fatalf("P40.3: %d is left over: %v", id, out.Events)
		}
	}
}

// FuzzLoad: P40.5.
func FuzzLoad(f *testing.F) {
	f.Add([]byte("barb"))
	b, _ := object.Encode(api.Object{Progs: []api.Prog{{Name: "p", Insns: []api.Insn{{Op: 0xB7}, {Op: 0x95}}}}})
	f.Add(b)
	f.Fuzz(func(t *testing.T, b []byte) {
		s, v, e := sys.Load(b, nil)
		if (s != nil) != (e == api.OK) || len(v) > api.MaxProgs {
			t.Fatal(e)
		}
		if e != api.OK {
			return
		}
		if c, e := object.Encode(s.Object()); e != api.OK || string(c) != string(b) {
			t.Fatal("P40.5: it takes bytes that aren't an object's")
		}
		out, e := s.Run(0, env())
		if e != api.OK || out.Trap != 0 {
			t.Fatalf("P40.1: %v, %d", out, e)
		}
	})
}
