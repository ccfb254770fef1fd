package object_test

import (
	"fmt"
	"reflect"
	"strings"
	"testing"

	"barbican/api"
	"barbican/object"
)

var (
	zero = api.Insn{Op: 0xB7}
	exit = api.Insn{Op: 0x95}
)

func main() api.Prog { return api.Prog{Name: "main", Insns: []api.Insn{zero, exit}} }

func loads(maps ...int) api.Prog {
	p := api.Prog{Name: "main"}
	for _, m := range maps {
		p.Insns = append(p.Insns, api.Insn{Op: 0x18, Dst: 1, Src: 1, Imm: int32(m)}, api.Insn{})
	}
	p.Insns = append(p.Insns, exit)
	return p
}

func types() []api.Type {
	return []api.Type{
		{Kind: api.TInt, Name: "u32", Size: 4},
		{Kind: api.TStruct, Name: "pair", Size: 8, Members: []api.Member{{Name: "a", Type: 1}, {Name: "b", Type: 1, Bits: 32}}},
		{Kind: api.TFunc, To: 1},
		{Kind: api.TAlias, Name: "two", To: 2},
		{Kind: api.TInt, Name: "u64", Size: 8},
	}
}

func array(value, entries int) api.MapDef {
	return api.MapDef{Kind: api.MArray, Key: 4, Value: value, Entries: entries}
}

// TestDef: P5.1.
func TestDef(t *testing.T) {
	for _, c := range []struct {
		m  api.MapDef
		ok bool
	}{
		{api.MapDef{}, false}, {api.MapDef{Kind: 5, Key: 4, Value: 4, Entries: 8}, false}, {api.MapDef{Kind: -1, Key: 4, Value: 4, Entries: 8}, false},
		{array(1, 1), true}, {array(256, 64), true}, {array(0, 1), false}, {array(257, 1), false}, {array(-1, 1), false}, {array(1, 0), false}, {array(1, 65), false}, {array(1, -1), false},
		{api.MapDef{Kind: api.MArray, Key: 3, Value: 1, Entries: 1}, false}, {api.MapDef{Kind: api.MArray, Key: 5, Value: 1, Entries: 1}, false}, {api.MapDef{Kind: api.MArray, Value: 1, Entries: 1}, false},
		{api.MapDef{Kind: api.MArray, Key: 4, Value: 15, Entries: 1, Timer: true}, false}, {api.MapDef{Kind: api.MArray, Key: 4, Value: 16, Entries: 1, Timer: true}, true},
		{api.MapDef{Kind: api.MArray, Key: 4, Value: 8, Entries: 1, Type: 2}, true}, {api.MapDef{Kind: api.MArray, Key: 4, Value: 8, Entries: 1, Type: 4}, true}, {api.MapDef{Kind: api.MArray, Key: 4, Value: 8, Entries: 1, Type: 5}, true},
		{api.MapDef{Kind: api.MArray, Key: 4, Value: 8, Entries: 1, Type: 1}, false}, {api.MapDef{Kind: api.MArray, Key: 4, Value: 8, Entries: 1, Type: 3}, false}, {api.MapDef{Kind: api.MArray, Key: 4, Value: 8, Entries: 1, Type: 6}, false}, {api.MapDef{Kind: api.MArray, Key: 4, Value: 8, Entries: 1, Type: -1}, false},
		{api.MapDef{Kind: api.MHash, Key: 1, Value: 1, Entries: 1}, true}, {api.MapDef{Kind: api.MHash, Key: 16, Value: 256, Entries: 64}, true}, {api.MapDef{Kind: api.MHash, Key: 0, Value: 1, Entries: 1}, false}, {api.MapDef{Kind: api.MHash, Key: 17, Value: 1, Entries: 1}, false},
		{api.MapDef{Kind: api.MHash, Key: 8, Value: 15, Entries: 1, Timer: true}, false}, {api.MapDef{Kind: api.MHash, Key: 8, Value: 16, Entries: 1, Timer: true}, true}, {api.MapDef{Kind: api.MHash, Key: 8, Value: 8, Entries: 1, Type: 2}, true}, {api.MapDef{Kind: api.MHash, Key: 8, Value: 9, Entries: 1, Type: 2}, false},
		{api.MapDef{Kind: api.MHash, Key: 8, Value: 0, Entries: 1}, false}, {api.MapDef{Kind: api.MHash, Key: 8, Value: 8, Entries: 65}, false},
		{api.MapDef{Kind: api.MProgs, Key: 4, Value: 4, Entries: 1}, true}, {api.MapDef{Kind: api.MProgs, Key: 4, Value: 4, Entries: 64}, true}, {api.MapDef{Kind: api.MProgs, Key: 4, Value: 4, Entries: 65}, false}, {api.MapDef{Kind: api.MProgs, Key: 4, Value: 4}, false},
		{api.MapDef{Kind: api.MProgs, Key: 5, Value: 4, Entries: 1}, false}, {api.MapDef{Kind: api.MProgs, Key: 4, Value: 8, Entries: 1}, false}, {api.MapDef{Kind: api.MProgs, Key: 4, Value: 4, Entries: 1, Timer: true}, false}, {api.MapDef{Kind: api.MProgs, Key: 4, Value: 4, Entries: 1, Type: 1}, false},
		{api.MapDef{Kind: api.MRing, Entries: 8}, true}, {api.MapDef{Kind: api.MRing, Entries: 4096}, true}, {api.MapDef{Kind: api.MRing, Entries: 4104}, false}, {api.MapDef{Kind: api.MRing, Entries: 0}, false}, {api.MapDef{Kind: api.MRing, Entries: 12}, false}, {api.MapDef{Kind: api.MRing, Entries: -8}, false},
		{api.MapDef{Kind: api.MRing, Key: 4, Entries: 8}, false}, {api.MapDef{Kind: api.MRing, Value: 4, Entries: 8}, false}, {api.MapDef{Kind: api.MRing, Entries: 8, Timer: true}, false}, {api.MapDef{Kind: api.MRing, Entries: 8, Type: 5}, false},
	} {
		e := object.Def(c.m, types())
		if e != api.OK && e != api.ErrObjectMap || (e == api.OK) != c.ok {
			t.Errorf("P5.1: %+v: %d", c.m, e)
		}
	}
	wrong := append(types(), api.Type{})
	if e := object.Def(api.MapDef{Kind: api.MArray, Key: 4, Value: 8, Entries: 1, Type: 2}, wrong); e != api.ErrObjectMap {
		t.Errorf("P5.1: types that may not be: %d", e)
	}
	if e := object.Def(array(8, 1), wrong); e != api.OK {
		t.Errorf("P5.1: types that aren't asked: %d", e)
	}
}

// TestCheck: P5.2.
func TestCheck(t *testing.T) {
	named := func(names ...string) []api.Prog {
		var l []api.Prog
		for _, n := range names {
			p := main()
			p.Name = n
			l = append(l, p)
		}
		return l
	}
	var many []string
	for i := range 17 {
		many = append(many, fmt.Sprintf("p%d", i))
	}
	arrays := make([]api.MapDef, 17)
	for i := range arrays {
		arrays[i] = array(1, 1)
	}
	for k, c := range []struct {
		o    api.Object
		at   int
		want api.Errno
	}{
		{api.Object{Progs: []api.Prog{main()}}, 0, api.OK},
		{api.Object{}, 0, api.ErrObjectProg},
		{api.Object{Types: []api.Type{{Kind: api.TInt, Name: "a", Size: 1}, {}}, Maps: []api.MapDef{{}}}, 2, api.ErrBtfType},
		{api.Object{Types: make([]api.Type, 257)}, 0, api.ErrBtfMany},
		{api.Object{Maps: []api.MapDef{array(1, 1), array(0, 1)}}, 1, api.ErrObjectMap},
		{api.Object{Types: types(), Maps: []api.MapDef{array(1, 1), {Kind: api.MArray, Key: 4, Value: 8, Entries: 1, Type: 2}}, Progs: []api.Prog{main()}}, 0, api.OK},
		{api.Object{Maps: arrays[:16], Progs: []api.Prog{main()}}, 0, api.OK},
		{api.Object{Maps: arrays, Progs: []api.Prog{main()}}, 16, api.ErrObjectMap},
		{api.Object{Progs: named(many[:16]...)}, 0, api.OK},
		{api.Object{Progs: named(many...)}, 0, api.ErrObjectProg},
		{api.Object{Progs: named(append(many, "")...)}, 0, api.ErrObjectProg},
		{api.Object{Progs: named("a", "")}, 1, api.ErrObjectProg},
		{api.Object{Progs: named("a", "1")}, 1, api.ErrObjectProg},
		{api.Object{Progs: named("a", strings.Repeat("b", 32), strings.Repeat("c", 33))}, 2, api.ErrObjectProg},
		{api.Object{Progs: named("a", "b", "a", "")}, 2, api.ErrObjectProg},
		{api.Object{Progs: []api.Prog{main(), {Name: "b"}}}, 1, api.ErrObjectProg},
		{api.Object{Progs: []api.Prog{main(), {Name: "b", Insns: []api.Insn{zero}}}}, 1, api.ErrObjectProg},
		{api.Object{Maps: arrays[:2], Progs: []api.Prog{loads(0, 1)}}, 0, api.OK},
		{api.Object{Maps: arrays[:2], Progs: []api.Prog{loads(0, 2)}}, 0, api.ErrObjectProg},
		{api.Object{Maps: arrays[:2], Progs: []api.Prog{loads(-1)}}, 0, api.ErrObjectProg},
		{api.Object{Progs: []api.Prog{loads(0)}}, 0, api.ErrObjectProg},
	} {
		at, e := object.Check(c.o)
		if at != c.at || e != c.want {
			t.Errorf("P5.2: row %d: %d, %d, want %d, %d", k, at, e, c.at, c.want)
		}
		b, e := object.Encode(c.o)
		if e != c.want || c.want != api.OK && len(b) != 0 {
			t.Errorf("P5.3: row %d: %d", k, e)
		}
		if c.want != api.OK {
			continue
		}
		if back, e := object.Decode(b); e != api.OK || fmt.Sprint(back) != fmt.Sprint(c.o) {
			t.Errorf("P5.4: row %d: %v, %d", k, back, e)
		}
	}
}

func sample() api.Object {
	return api.Object{
		Types: types(),
		Maps: []api.MapDef{
			{Kind: api.MArray, Key: 4, Value: 8, Entries: 3, Type: 2}, {Kind: api.MHash, Key: 16, Value: 256, Entries: 64, Timer: true},
			{Kind: api.MProgs, Key: 4, Value: 4, Entries: 2}, {Kind: api.MRing, Entries: 4096},
		},
		Progs: []api.Prog{loads(0, 1, 2, 3), {Name: "other", Insns: []api.Insn{zero, exit}}},
	}
}

// TestBytes: P5.3, P5.4.
func TestBytes(t *testing.T) {
	b, e := object.Encode(api.Object{Progs: []api.Prog{main()}})
	if got := fmt.Sprintf("%x", b); e != api.OK || got != "6261726200000000"+"00"+"01"+"046d61696e"+"0200"+"b7000000000000009500000000000000" {
		t.Errorf("P5.3: %s, %d", got, e)
	}
	o := api.Object{
		Maps:  []api.MapDef{{Kind: api.MHash, Key: 16, Value: 256, Entries: 64, Timer: true}, {Kind: api.MRing, Entries: 4096}},
		Progs: []api.Prog{{Name: "p", Insns: []api.Insn{exit}}},
	}
	b, e = object.Encode(o)
	if got := fmt.Sprintf("%x", b); e != api.OK || got != "6261726200000000"+"02"+"0210000140000100"+"00"+"0400000000100000"+"00"+"01"+"0170"+"0100"+"9500000000000000" {
		t.Errorf("P5.3: %s, %d", got, e)
	}
	o = sample()
	b, e = object.Encode(o)
	back, f := object.Decode(b)
	if e != api.OK || f != api.OK || !reflect.DeepEqual(o, back) {
		t.Errorf("P5.4: %v, %d, %d", back, e, f)
	}
	for n := range len(b) {
		if x, e := object.Decode(b[:n]); len(x.Types)+len(x.Maps)+len(x.Progs) != 0 || e != api.ErrObjectForm {
			t.Errorf("P5.4: cut at %d: %d", n, e)
		}
	}
	for v := range 256 {
		if _, e := object.Decode(append(b[:len(b):len(b)], byte(v))); e != api.ErrObjectForm {
			t.Errorf("P5.4: %d behind it: %d", v, e)
		}
	}
	for i := range b {
		b[i] = 0xEE
	}
	if !reflect.DeepEqual(back, sample()) {
		t.Error("Decode keeps its bytes")
	}
}

// TestWrongBytes: P5.4: each byte changed: refused, or told again.
func TestWrongBytes(t *testing.T) {
	b, _ := object.Encode(sample())
	for at := range b {
		for v := range 256 {
			c := append([]byte(nil), b...)
			c[at] = byte(v)
			o, e := object.Decode(c)
			if e != api.OK {
				if e != api.ErrObjectForm || len(o.Progs) != 0 {
					t.Fatalf("P5.3: byte %d as %x: %d", at, v, e)
				}
				continue
			}
			if back, e := object.Encode(o); e != api.OK || string(back) != string(c) {
				t.Fatalf("P5.4: byte %d as %x is taken, and isn't told again", at, v)
			}
		}
	}
	if _, e := object.Decode(nil); e != api.ErrObjectForm {
		t.Errorf("P5.3: nothing: %d", e)
	}
}

// TestLong: P5.3 at the limit.
func TestLong(t *testing.T) {
	long := func(slots, name int) api.Object {
		o := api.Object{}
		for i := range 3 {
			n := min(slots, api.MaxInsns)
			slots -= n
			p := api.Prog{Name: fmt.Sprintf("p%d", i) + strings.Repeat("x", name)}
			for range n {
				p.Insns = append(p.Insns, zero)
			}
			if n == 0 {
				continue
			}
			p.Insns[n-1] = exit
			o.Progs = append(o.Progs, p)
		}
		return o
	}
	// 10 bytes, and each program's 5, and 8 a slot; two programs: 10 + 10 + 65512 = 65532; four bytes of names more.
	o := long(8189, 2)
	b, e := object.Encode(o)
	if len(b) != api.MaxObject || e != api.OK {
		t.Errorf("P5.3: %d bytes, %d", len(b), e)
	}
	if back, e := object.Decode(b); e != api.OK || !reflect.DeepEqual(o, back) {
		t.Errorf("P5.4: MaxObject bytes: %d", e)
	}
	if _, e := object.Decode(append(b, 0)); e != api.ErrObjectLong {
		t.Errorf("P5.3: one more: %d", e)
	}
	o.Progs[0].Name += "x"
	if b, e := object.Encode(o); len(b) != 0 || e != api.ErrObjectLong {
		t.Errorf("P5.3: one more: %d bytes, %d", len(b), e)
	}
	if at, e := object.Check(o); at != 0 || e != api.OK {
		t.Errorf("P5.2: %d, %d", at, e)
	}
}

// FuzzDecode: P5.4.
func FuzzDecode(f *testing.F) {
	b, _ := object.Encode(sample())
	f.Add(b)
	f.Fuzz(func(t *testing.T, b []byte) {
		o, e := object.Decode(b)
		if e != api.OK {
			return
		}
		if c, e := object.Encode(o); e != api.OK || string(c) != string(b) {
			t.Fatal("P5.4")
		}
	})
}
