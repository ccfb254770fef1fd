package link_test

import (
	"fmt"
	"reflect"
	"strings"
	"testing"

	"barbican/api"
	"barbican/link"
	"barbican/object"
	"barbican/text"
	"barbican/verify"
	"barbican/vm"
)

func prog(t *testing.T, name, s string) api.Prog {
	t.Helper()
	l, at, e := text.Parse(strings.ReplaceAll(s, "; ", "\n"))
	if e != api.OK {
		t.Fatalf("line %d of %q", at, s)
	}
	return api.Prog{Name: name, Insns: l}
}

func types() []api.Type {
	return []api.Type{
		{Kind: api.TInt, Name: "u32", Size: 4},
		{Kind: api.TPtr}, {Kind: api.TPtr, To: 4},
		{Kind: api.TStruct, Name: "pair", Size: 16, Members: []api.Member{{Name: "a", Type: 1}, {Name: "b", Type: 3, Bits: 64}}},
		{Kind: api.TFunc, Members: []api.Member{{Name: "x", Type: 1}}}, {Kind: api.TFunc, To: 1}, {Kind: api.TAlias, Name: "word", To: 1}, {Kind: api.TArray, To: 7, Count: 2},
	}
}

const bump = "*(u32 *)(r10 -4) = 0; r2 = r10; r2 += -4; r1 = map %d; call 1; if r0 == 0 goto +3; r6 = *(u64 *)(r0 +0); r6 += %d; *(u64 *)(r0 +0) = r6; r0 = 7; exit"

func array(value, kind int) api.MapDef {
	return api.MapDef{Kind: api.MArray, Key: 4, Value: value, Entries: 1, Type: kind}
}

func first(t *testing.T) api.Object {
	return api.Object{Types: types(), Maps: []api.MapDef{array(8, 0), {Kind: api.MRing, Entries: 64}}, Progs: []api.Prog{prog(t, "main", fmt.Sprintf(bump, 0, 1)), prog(t, "other", "r1 = map 1; call 12; exit")}}
}

func second(t *testing.T) api.Object {
	return api.Object{Types: types(), Maps: []api.MapDef{{Kind: api.MRing, Entries: 128}, array(16, 4), array(8, 8)}, Progs: []api.Prog{prog(t, "main", "r1 = map 0; call 12; exit"), prog(t, "add", fmt.Sprintf(bump, 2, 5)), prog(t, "bad", "r0 = r1; exit")}}
}

// TestJoin: P22.1.
func TestJoin(t *testing.T) {
	a, b := first(t), second(t)
	o, e := link.Join(a, b, "b_")
	if e != api.OK {
		t.Fatalf("P22.1: %d", e)
	}
	if !reflect.DeepEqual(a, first(t)) || !reflect.DeepEqual(b, second(t)) {
		t.Error("P22.1: what is handed in is changed")
	}
	want := api.Object{Types: append(types(), api.Type{Kind: api.TInt, Name: "b_u32", Size: 4}, api.Type{Kind: api.TPtr}, api.Type{Kind: api.TPtr, To: 12},
		api.Type{Kind: api.TStruct, Name: "b_pair", Size: 16, Members: []api.Member{{Name: "a", Type: 9}, {Name: "b", Type: 11, Bits: 64}}},
		api.Type{Kind: api.TFunc, Members: []api.Member{{Name: "x", Type: 9}}}, api.Type{Kind: api.TFunc, To: 9}, api.Type{Kind: api.TAlias, Name: "b_word", To: 9}, api.Type{Kind: api.TArray, To: 15, Count: 2}),
		Maps:  []api.MapDef{array(8, 0), {Kind: api.MRing, Entries: 64}, {Kind: api.MRing, Entries: 128}, array(16, 12), array(8, 16)},
		Progs: []api.Prog{a.Progs[0], a.Progs[1], prog(t, "b_main", "r1 = map 2; call 12; exit"), prog(t, "b_add", fmt.Sprintf(bump, 4, 5)), prog(t, "b_bad", "r0 = r1; exit")}}
	if !reflect.DeepEqual(o, want) {
		t.Errorf("P22.1: %+v, want %+v", o, want)
	}
	if _, e := object.Check(o); e != api.OK {
		t.Errorf("P22.3: %d", e)
	}
	o.Types[3].Members[0].Name, o.Progs[0].Insns[0].Imm, o.Types[11].Members[0].Name, o.Progs[2].Insns[2].Imm = "x", 9, "y", 13
	o.Maps[0].Value, o.Progs[1].Name = 5, "z"
	if !reflect.DeepEqual(a, first(t)) || !reflect.DeepEqual(b, second(t)) {
		t.Error("P22.1: the answer shares memory with what was handed in")
	}
}

// TestJoinWrong: P22.1.
func TestJoinWrong(t *testing.T) {
	a, b := first(t), second(t)
	bad := api.Object{Maps: make([]api.MapDef, 1)}
	many := func(types, maps, progs int) api.Object {
		o := api.Object{}
		for range types {
			o.Types = append(o.Types, api.Type{Kind: api.TPtr})
		}
		for range maps {
			o.Maps = append(o.Maps, array(8, 0))
		}
		for i := range progs {
			o.Progs = append(o.Progs, prog(t, fmt.Sprintf("q%d", i), "r0 = 0; exit"))
		}
		return o
	}
	for k, c := range []struct {
		a, b   api.Object
		prefix string
		want   api.Errno
	}{
		{bad, api.Object{}, "", api.ErrObjectMap}, {api.Object{}, bad, "", api.ErrObjectProg}, {a, bad, "", api.ErrObjectMap}, {a, api.Object{}, "x", api.ErrObjectProg},
		{a, b, "", api.ErrLinkName}, {a, b, "1", api.ErrLinkName}, {a, b, "b-", api.ErrLinkName}, {a, b, strings.Repeat("p", 28), api.OK}, {a, b, strings.Repeat("p", 29), api.ErrLinkName}, {a, b, "é", api.ErrLinkName},
		{many(1, 1, 1), many(0, 0, 1), "", api.ErrLinkName}, {many(1, 1, 1), many(0, 0, 1), "x", api.OK}, {many(200, 0, 1), many(56, 0, 1), "x", api.OK}, {many(200, 0, 1), many(57, 0, 1), "x", api.ErrLinkMany},
		{many(0, 8, 1), many(0, 8, 1), "x", api.OK}, {many(0, 8, 1), many(0, 9, 1), "x", api.ErrLinkMany}, {many(0, 0, 8), many(0, 0, 8), "x", api.OK}, {many(0, 0, 8), many(0, 0, 9), "x", api.ErrLinkMany}, {many(0, 0, 8), many(0, 0, 9), "", api.ErrLinkMany},
	} {
		o, e := link.Join(c.a, c.b, c.prefix)
		if e != c.want || e != api.OK && len(o.Types)+len(o.Maps)+len(o.Progs) != 0 {
			t.Errorf("P22.1: row %d: %d, want %d", k, e, c.want)
		}
	}
}

func machine(t *testing.T, o api.Object) *vm.Machine {
	t.Helper()
	m, e := vm.New(o, nil)
	if e != api.OK {
		t.Fatal(e)
	}
	return m
}

// TestSame: P22.3: programs run as they did, on maps of their own; verdicts stay.
func TestSame(t *testing.T) {
	a, b := first(t), second(t)
	o, _ := link.Join(a, b, "b_")
	whole, one, two := machine(t, o), machine(t, a), machine(t, b)
	env := api.Env{Ctx: make([]byte, api.CtxSize)}
	for range 3 {
		for i := range o.Progs {
			part, k := one, i
			if i >= len(a.Progs) {
				part, k = two, i-len(a.Progs)
			}
			x, _ := whole.Run(i, env, 100)
			y, _ := part.Run(k, env, 100)
			y.Prog = i
			if fmt.Sprint(x) != fmt.Sprint(y) {
				t.Errorf("P22.3: program %d: %v, %v", i, x, y)
			}
		}
	}
	for i, n := range map[int]byte{0: 3, 4: 15} {
		if v, _ := whole.Lookup(i, make([]byte, 4)); v[0] != n {
			t.Errorf("P22.3: map %d: %v", i, v)
		}
	}
	for i := range o.Progs {
		from, k := a, i
		if i >= len(a.Progs) {
			from, k = b, i-len(a.Progs)
		}
		x, _ := verify.Check(o, i)
		y, _ := verify.Check(from, k)
		if x != y {
			t.Errorf("P22.3: program %d: %+v, %+v", i, x, y)
		}
	}
}

// TestRename: P22.2.
func TestRename(t *testing.T) {
	o := second(t)
	for _, c := range []struct {
		from, to string
		want     api.Errno
	}{
		{"main", "x", api.OK}, {"bad", "_9", api.OK}, {"add", "add", api.OK}, {"none", "x", api.ErrLinkNone}, {"", "", api.ErrLinkNone}, {"main", "", api.ErrLinkName}, {"main", "9", api.ErrLinkName}, {"main", "add", api.ErrLinkName},
		{"main", strings.Repeat("x", 32), api.OK}, {"main", strings.Repeat("x", 33), api.ErrLinkName}, {"none", "9", api.ErrLinkNone},
	} {
		got, e := link.Rename(o, c.from, c.to)
		want := api.Object{}
		if c.want == api.OK {
			want = second(t)
			for i := range want.Progs {
				if want.Progs[i].Name == c.from {
					want.Progs[i].Name = c.to
				}
			}
		}
		if e != c.want || !reflect.DeepEqual(got, want) || !reflect.DeepEqual(o, second(t)) {
			t.Errorf("P22.2: %+v: %d", c, e)
		}
	}
	if _, e := link.Rename(api.Object{}, "a", "b"); e != api.ErrObjectProg {
		t.Errorf("P22.2: %d", e)
	}
}

// TestDrop: P22.2.
func TestDrop(t *testing.T) {
	o := second(t)
	got, e := link.Drop(o, "add")
	want := second(t)
	want.Progs = append(want.Progs[:1], want.Progs[2])
	if e != api.OK || !reflect.DeepEqual(got, want) || !reflect.DeepEqual(o, second(t)) {
		t.Errorf("P22.2: %+v, %d", got, e)
	}
	got.Progs[0].Insns[0].Imm = 9
	if !reflect.DeepEqual(o, second(t)) {
		t.Error("P22.2: Drop shares memory")
	}
	got, e = link.Drop(o, "none")
	if e != api.ErrLinkNone || len(got.Progs) != 0 {
		t.Errorf("P22.2: %d", e)
	}
	alone := api.Object{Progs: []api.Prog{prog(t, "p", "exit")}}
	if got, e := link.Drop(alone, "p"); e != api.ErrLinkNone || len(got.Progs) != 0 {
		t.Errorf("P22.2: the only program: %d", e)
	}
	if _, e := link.Drop(api.Object{}, "p"); e != api.ErrObjectProg {
		t.Errorf("P22.2: %d", e)
	}
}

// TestMaps: P22.2.
func TestMaps(t *testing.T) {
	o := second(t)
	o.Progs = append(o.Progs, prog(t, "all", "r1 = map 2; r2 = map 0; r3 = map 2; r4 = 1 ll; exit; r0 = map 1; exit"))
	for i, want := range []string{"[0]", "[2]", "[]", "[0 1 2]"} {
		if l, e := link.Maps(o, i); fmt.Sprint(l) != want || e != api.OK {
			t.Errorf("P22.2: %d: %v, %d", i, l, e)
		}
	}
	for _, i := range []int{-1, 4} {
		if l, e := link.Maps(o, i); len(l) != 0 || e != api.ErrLinkNone {
			t.Errorf("P22.2: %d: %v, %d", i, l, e)
		}
	}
	if _, e := link.Maps(api.Object{}, 0); e != api.ErrObjectProg {
		t.Errorf("P22.2: %d", e)
	}
}
