package gen_test

import (
	"bytes"
	"fmt"
	"math/rand"
	"reflect"
	"testing"

	"barbican/api"
	"barbican/flow"
	"barbican/gen"
	"barbican/insn"
	"barbican/object"
	"barbican/proto"
	"barbican/sys"
	"barbican/verify"
	"barbican/vm"
)

func seeds() [][]byte {
	l := [][]byte{nil, {}, make([]byte, 256), bytes.Repeat([]byte{0xFF}, 300)}
	for i := range 256 {
		l = append(l, []byte{byte(i)})
	}
	r := rand.New(rand.NewSource(1))
	for range 150 {
		b := make([]byte, r.Intn(40))
		r.Read(b)
		l = append(l, b)
	}
	return l
}

// TestObject: P23.1.
func TestObject(t *testing.T) {
	for _, seed := range seeds() {
		o := gen.Object(seed)
		if at, e := object.Check(o); e != api.OK {
			t.Fatalf("P23.1: %x: %d, %d", seed, at, e)
		}
		most := 0
		called := map[int]bool{}
		for i, p := range o.Progs {
			most = max(most, len(p.Insns))
			if v, e := verify.Check(o, i); e != api.OK || v.Why != api.OK {
				t.Fatalf("P23.1: %x: program %d: %+v, %d", seed, i, v, e)
			}
			reached, _ := flow.Reached(p.Insns)
			for at, x := range p.Insns {
				if reached[at] && x.Op == 0x85 && x.Src == 0 {
					called[int(x.Imm)] = true
				}
			}
		}
		if most < 2 || len(o.Progs[0].Insns) < 2 {
			t.Errorf("P23.1: %x: %d slots", seed, most)
		}
		var shape []int
		for n := 1; n <= 28; n++ {
			if called[n] {
				shape = append(shape, n)
			}
		}
		if got := gen.Shape(seed); fmt.Sprint(got) != fmt.Sprint(shape) {
			t.Errorf("P23.1: %x: Shape %v, want %v", seed, got, shape)
		}
		if !reflect.DeepEqual(o, gen.Object(append([]byte(nil), seed...))) {
			t.Errorf("P23.1: %x: what is made hangs on more than the seed", seed)
		}
	}
	long := bytes.Repeat([]byte{7, 9}, 128)
	if !reflect.DeepEqual(gen.Object(long), gen.Object(append(long, 5))) || !reflect.DeepEqual(gen.Soup(long), gen.Soup(append(long, 5))) {
		t.Error("more than the first 256 bytes count")
	}
}

// TestSoup: P23.2.
func TestSoup(t *testing.T) {
	for _, seed := range seeds() {
		l := gen.Soup(seed)
		if at, e := insn.Check(l); e != api.OK || len(l) > 512 {
			t.Fatalf("P23.2: %x: %d, %d, %d slots", seed, at, e, len(l))
		}
		for _, x := range l {
			if x.Op == 0x18 && x.Src == 1 {
				t.Errorf("P23.2: %x loads a map", seed)
			}
		}
		if !reflect.DeepEqual(l, gen.Soup(seed)) {
			t.Errorf("P23.2: %x: what is made hangs on more than the seed", seed)
		}
	}
}

// TestMany: P23.3.
func TestMany(t *testing.T) {
	objects, soups := map[string]int{}, map[string]int{}
	helpers := map[int]int{}
	refused, takenSoups := 0, 0
	for i := range 256 {
		seed := []byte{byte(i)}
		objects[fmt.Sprint(gen.Object(seed))]++
		for _, n := range gen.Shape(seed) {
			helpers[n]++
		}
		l := gen.Soup(seed)
		if soups[fmt.Sprint(l)]++; soups[fmt.Sprint(l)] > 1 {
			continue
		}
		if v, e := verify.Check(api.Object{Progs: []api.Prog{{Name: "p", Insns: l}}}, 0); e != api.OK {
			t.Fatal(e)
		} else if v.Why != api.OK {
			refused++
		} else {
			takenSoups++
		}
	}
	if len(objects) < 64 || len(soups) < 64 || refused < 16 {
		t.Errorf("P23.3: %d objects, %d soups, %d aren't taken", len(objects), len(soups), refused)
	}
	for n := range proto.All() {
		if helpers[n+1] == 0 {
			t.Errorf("P23.3: helper %d is in no Shape", n+1)
		}
	}
	t.Logf("%d objects, %d soups, %d of them aren't taken, %d are; helpers %v", len(objects), len(soups), refused, takenSoups, helpers)
}

// TestRuns: P23.4, P40.1.
func TestRuns(t *testing.T) {
	r := rand.New(rand.NewSource(2))
	least := 0
	for _, seed := range seeds() {
		o := gen.Object(seed)
		b, e := object.Encode(o)
		if e != api.OK {
			t.Fatalf("%x: %d", seed, e)
		}
		s, _, e := sys.Load(b, [][]byte{make([]byte, 20), make([]byte, 20)})
		if e != api.OK {
			t.Fatalf("%x: %d", seed, e)
		}
		for i, p := range o.Progs {
			if len(p.Insns) == 2 {
				least++
			}
			for k := range 4 {
				s.Machine().Set(2, k, r.Intn(len(o.Progs)))
			}
			for range 6 {
				x := api.Env{Ctx: make([]byte, api.CtxSize), Draws: []uint32{r.Uint32(), r.Uint32()}, Socks: []int{r.Intn(3) - 1, r.Intn(3) - 1}}
				r.Read(x.Ctx)
				out, e := s.Run(i, x)
				if e != api.OK || out.Trap != 0 {
					t.Fatalf("P23.4: %x: program %d: %v, %d", seed, i, out, e)
				}
				l, _ := s.Tick(s.Machine().Now()+uint64(r.Intn(60)), x)
				for _, out := range l {
					if out.Trap != 0 {
						t.Fatalf("P23.4: %x: %v", seed, out)
					}
				}
			}
		}
	}
	if least > 5 {
		t.Errorf("%d programs are the least one", least)
	}
}

// TestSoupRuns: soups run on a machine, to whatever end.
func TestSoupRuns(t *testing.T) {
	traps := map[int]int{}
	for _, seed := range seeds() {
		o := api.Object{Progs: []api.Prog{{Name: "p", Insns: gen.Soup(seed)}}}
		m, e := vm.New(o, nil)
		if e != api.OK {
			t.Fatal(e)
		}
		out, e := m.Run(0, api.Env{Ctx: make([]byte, api.CtxSize)}, 5000)
		if e != api.OK {
			t.Fatal(e)
		}
		traps[out.Trap]++
		if v, _ := verify.Check(o, 0); v.Why == api.OK && out.Trap != 0 {
			t.Fatalf("P17.2: %x: %v", seed, out)
		}
	}
	t.Log(traps)
}
