package trace_test

import (
	"fmt"
	"strings"
	"testing"

	"barbican/api"
	"barbican/text"
	"barbican/trace"
)

func object(t *testing.T, progs ...string) api.Object {
	t.Helper()
	o := api.Object{Maps: []api.MapDef{{Kind: api.MArray, Key: 4, Value: 8, Entries: 2}, {Kind: api.MProgs, Key: 4, Value: 4, Entries: 2}, {Kind: api.MRing, Entries: 64}}}
	for i, p := range progs {
		l, at, e := text.Parse(strings.ReplaceAll(p, "; ", "\n"))
		if e != api.OK {
			t.Fatalf("line %d of %q", at, p)
		}
		o.Progs = append(o.Progs, api.Prog{Name: fmt.Sprintf("p%d", i), Insns: l})
	}
	return o
}

func env() api.Env { return api.Env{Ctx: make([]byte, api.CtxSize)} }

// TestErrors: P21.1.
func TestErrors(t *testing.T) {
	o := object(t, "r0 = 1; exit")
	for k, c := range []struct {
		o    api.Object
		prog int
		e    api.Env
		fuel int
		want api.Errno
	}{
		{api.Object{}, 0, env(), 9, api.ErrObjectProg}, {o, 1, env(), 9, api.ErrVmEnv}, {o, -1, env(), 9, api.ErrVmEnv}, {o, 0, api.Env{}, 9, api.ErrVmEnv}, {o, 0, env(), -1, api.ErrVmEnv},
		{o, 0, api.Env{Ctx: make([]byte, 64), Socks: []int{0}}, 9, api.ErrVmEnv}, {o, 0, env(), 9, api.OK},
	} {
		l, out, e := trace.Run(c.o, c.prog, c.e, c.fuel)
		if e != c.want || e != api.OK && (len(l) != 0 || fmt.Sprint(out) != fmt.Sprint(api.Outcome{})) || e == api.OK && len(l) != 2 {
			t.Errorf("P21.1: row %d: %v, %v, %d", k, l, out, e)
		}
	}
}

// TestPrint: P21.1, P21.2.
func TestPrint(t *testing.T) {
	for _, c := range []struct {
		progs []string
		fuel  int
		want  string
	}{
		{[]string{"r0 = 1; exit"}, 9, "0:0 1 r1=ctx0+0 r10=stack1+0\n0:1 1 r0=1 r1=ctx0+0 r10=stack1+0\n"},
		{[]string{"r0 = 1; exit"}, 1, "0:0 1 r1=ctx0+0 r10=stack1+0\n"}, {[]string{"r0 = 1; exit"}, 0, ""},
		{[]string{"r0 = r2; exit"}, 9, "0:0 1 r1=ctx0+0 r10=stack1+0\n"},
		{[]string{"r1 += 8; r2 = r10; r2 += -8; r3 = map 1; r4 = func +3; r0 = -1; exit; exit"}, 99, "0:0 1 r1=ctx0+0 r10=stack1+0\n0:1 1 r1=ctx0+8 r10=stack1+0\n0:2 1 r1=ctx0+8 r2=stack1+0 r10=stack1+0\n0:3 1 r1=ctx0+8 r2=stack1-8 r10=stack1+0\n" +
			"0:5 1 r1=ctx0+8 r2=stack1-8 r3=map1+0 r10=stack1+0\n0:7 1 r1=ctx0+8 r2=stack1-8 r3=map1+0 r4=func9+0 r10=stack1+0\n0:8 1 r0=18446744073709551615 r1=ctx0+8 r2=stack1-8 r3=map1+0 r4=func9+0 r10=stack1+0\n"},
		{[]string{"r1 = r10; call +2; r0 = 0; exit; r2 = r10; r0 = 5; exit"}, 99, "0:0 1 r1=ctx0+0 r10=stack1+0\n0:1 1 r1=stack1+0 r10=stack1+0\n0:4 2 r1=stack1+0 r10=stack2+0\n0:5 2 r1=stack1+0 r2=stack2+0 r10=stack2+0\n0:6 2 r0=5 r1=stack1+0 r2=stack2+0 r10=stack2+0\n0:2 1 r0=5 r10=stack1+0\n0:3 1 r0=0 r10=stack1+0\n"},
		{[]string{"r1 = map 2; r2 = 8; call 9; r6 = r0; r1 = r0; r1 += 3; r1 = r0; call 10; exit"}, 99, "0:0 1 r1=ctx0+0 r10=stack1+0\n0:2 1 r1=map2+0 r10=stack1+0\n0:3 1 r1=map2+0 r2=8 r10=stack1+0\n0:4 1 r0=mem1+0 r10=stack1+0\n0:5 1 r0=mem1+0 r6=mem1+0 r10=stack1+0\n" +
			"0:6 1 r0=mem1+0 r1=mem1+0 r6=mem1+0 r10=stack1+0\n0:7 1 r0=mem1+0 r1=mem1+3 r6=mem1+0 r10=stack1+0\n0:8 1 r0=mem1+0 r1=mem1+0 r6=mem1+0 r10=stack1+0\n0:9 1 r0=0 r6=mem1+0 r10=stack1+0\n"},
	} {
		l, out, e := trace.Run(object(t, c.progs...), 0, env(), c.fuel)
		if got := trace.Print(l); got != c.want || e != api.OK {
			t.Errorf("P21.2: %s: %d\n%s, want\n%s", c.progs, e, got, c.want)
		}
		if len(l) != out.Steps {
			t.Errorf("P21.3: %d steps, %d", len(l), out.Steps)
		}
	}
	all := api.Step{Prog: -1, At: 5, Frames: 3, Regs: [11]api.Val{{Kind: api.VSock, Id: 7, Off: -1}, {Kind: 8, Id: 3}, {Kind: -1}, {Kind: api.VFunc, Id: 9, Off: 1 << 40}, {}, {Kind: api.VMem, Id: -2, Off: -1 << 63}, {Kind: api.VNum, Id: 5, Off: 6}}}
	if got := trace.Print([]api.Step{all, {}}); got != "-1:5 3 r0=sock7-1 r1=? r2=? r3=func9+1099511627776 r5=mem-2-9223372036854775808 r6=0\n0:0 0\n" {
		t.Errorf("P21.2: %q", got)
	}
	if trace.Print(nil) != "" {
		t.Error("P21.2: nothing")
	}
}

// TestOrder: P21.1: things are numbered as they are seen, by kind, from r0 to r10.
func TestOrder(t *testing.T) {
	// The values' regions are seen in another order than they were made.
	look := "*(u32 *)(r10 -4) = %d; r2 = r10; r2 += -4; r1 = map 0; call 1; r%d = r0; "
	o := object(t, fmt.Sprintf(look, 1, 6)+fmt.Sprintf(look, 0, 7)+"r0 = 0; exit")
	l, _, e := trace.Run(o, 0, env(), 99)
	if e != api.OK {
		t.Fatal(e)
	}
	last := l[len(l)-1].Regs
	if last[6] != (api.Val{Kind: api.VMem, Id: 1}) || last[7] != (api.Val{Kind: api.VMem, Id: 2}) || last[10] != (api.Val{Kind: api.VStack, Id: 1}) {
		t.Errorf("P21.1: %v", last)
	}
}

// TestMany: P21.1 at the limit, P21.3.
func TestMany(t *testing.T) {
	o := object(t, "r0 = 0; r0 += 1; goto -2")
	l, out, e := trace.Run(o, 0, env(), 65536)
	if len(l) != 65536 || out.Steps != 65536 || e != api.OK {
		t.Errorf("P21.1: %d, %v, %d", len(l), out, e)
	}
	more, out, e := trace.Run(o, 0, env(), 65537)
	if len(more) != 65536 || out.Steps != 65537 || out.Trap != api.TrapFuel || e != api.OK || more[65535] != l[65535] {
		t.Errorf("P21.1: %d, %v, %d", len(more), out, e)
	}
	counts := trace.Cover(l, 0, 3)
	if fmt.Sprint(counts) != "[1 32768 32767]" {
		t.Errorf("P21.2: %v", counts)
	}
}

// TestCover: P21.2.
func TestCover(t *testing.T) {
	l := []api.Step{{At: 1}, {At: 2}, {At: 1}, {Prog: 1, At: 1}, {At: -1}, {At: 4096}, {Prog: -1}}
	for _, c := range []struct {
		prog, slots int
		want        string
	}{{0, 3, "[0 2 1]"}, {0, 2, "[0 2]"}, {1, 2, "[0 1]"}, {-1, 1, "[1]"}, {5, 2, "[0 0]"}, {0, 0, "[]"}, {0, -1, "[]"}, {0, 4097, "[]"}, {0, -1 << 63, "[]"}} {
		if got := trace.Cover(l, c.prog, c.slots); fmt.Sprint(got) != c.want {
			t.Errorf("P21.2: %+v: %v", c, got)
		}
	}
	if got := trace.Cover(l, 0, api.MaxInsns); len(got) != api.MaxInsns {
		t.Errorf("P21.2: %d", len(got))
	}
}
