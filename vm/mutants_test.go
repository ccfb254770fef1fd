package vm_test

import (
	"fmt"
	"math/rand"
	"testing"

	"barbican/api"
	"barbican/gen"
	objects "barbican/object"
	"barbican/vm"
)

// mutant: an object of programs that nothing promises to be right: those that gen makes, with slots changed.
func mutant(r *rand.Rand) api.Object {
	for {
		o := gen.Object([]byte{byte(r.Intn(256)), byte(r.Intn(256)), byte(r.Intn(256))})
		for i := range o.Progs {
			l := o.Progs[i].Insns
			for range r.Intn(4) {
				x := &l[r.Intn(len(l))]
				switch r.Intn(6) {
				case 0:
					x.Dst = uint8(r.Intn(11))
				case 1:
					x.Src = uint8(r.Intn(11))
				case 2:
					x.Imm = int32(r.Intn(64) - 16)
				case 3:
					x.Off += int16(r.Intn(17) - 8)
				case 4:
					*x = l[r.Intn(len(l))]
				case 5:
					*x = api.Insn{Op: 0x85, Imm: int32(1 + r.Intn(28))}
				}
			}
		}
		if _, e := objects.Check(o); e == api.OK {
			return o
		}
	}
}

// TestMutants: P14.15, P14.4: whatever they do, machines never panic, end within fuel, hold nothing over, and do the same again.
func TestMutants(t *testing.T) {
	r := rand.New(rand.NewSource(1))
	traps := map[int]int{}
	for range 1500 {
		o := mutant(r)
		one, e := vm.New(o, socks())
		two, f := vm.New(o, socks())
		if e != api.OK || f != api.OK {
			t.Fatal(e, f)
		}
		for range 4 {
			x := env()
			r.Read(x.Ctx)
			prog, fuel := r.Intn(len(o.Progs)), r.Intn(2000)
			slot, to := r.Intn(4), r.Intn(len(o.Progs)+1)-1
			one.Set(2, slot, to)
			two.Set(2, slot, to)
			a, e := one.Run(prog, x, fuel)
			b, f := two.Run(prog, x, fuel)
			now := one.Now() + uint64(r.Intn(50))
			c, g := one.Tick(now, x, fuel)
			d, h := two.Tick(now, x, fuel)
			if fmt.Sprint(a, c) != fmt.Sprint(b, d) || e != f || g != h || a.Steps > fuel {
				t.Fatalf("P14.15: %v, %v; %v, %v", a, c, b, d)
			}
			if fmt.Sprint(one.Counts()) != "[1 1]" {
				t.Fatalf("P14.4: %v", one.Counts())
			}
			one.Read(3)
			two.Read(3)
			if n, _ := one.Used(3); n != 0 {
				t.Fatalf("P14.4: %d are pending", n)
			}
			traps[a.Trap]++
		}
	}
	if len(traps) < 12 {
		t.Errorf("only the traps %v", traps)
	}
}
