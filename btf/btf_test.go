package btf_test

import (
	"reflect"
	"strings"
	"testing"

	"barbican/api"
	"barbican/btf"
)

func num(name string, size int) api.Type { return api.Type{Kind: api.TInt, Name: name, Size: size} }
func ptr(to int) api.Type                { return api.Type{Kind: api.TPtr, To: to} }
func arr(to, count int) api.Type         { return api.Type{Kind: api.TArray, To: to, Count: count} }
func alias(name string, to int) api.Type { return api.Type{Kind: api.TAlias, Name: name, To: to} }
func fun(to int, m ...api.Member) api.Type {
	return api.Type{Kind: api.TFunc, To: to, Members: m}
}
func rec(name string, size int, m ...api.Member) api.Type {
	return api.Type{Kind: api.TStruct, Name: name, Size: size, Members: m}
}
func mem(name string, id, bits int) api.Member { return api.Member{Name: name, Type: id, Bits: bits} }

func types(l ...api.Type) []api.Type { return l }

// TestCheck: P4.1, a type by itself.
func TestCheck(t *testing.T) {
	u32, u8 := num("u32", 4), num("u8", 1)
	for _, c := range []struct {
		l    []api.Type
		at   int
		want api.Errno
	}{
		{nil, 0, api.OK},
		{types(u32), 0, api.OK},
		{types(api.Type{}), 1, api.ErrBtfType},
		{types(u32, api.Type{Kind: 7}), 2, api.ErrBtfType},
		{types(api.Type{Kind: -1, Name: "?"}), 1, api.ErrBtfType},
		// Names.
		{types(num("", 4)), 1, api.ErrBtfName},
		{types(num("1a", 4)), 1, api.ErrBtfName},
		{types(num("a-b", 4)), 1, api.ErrBtfName},
		{types(num("é", 4)), 1, api.ErrBtfName},
		{types(num("_aZ9", 4)), 0, api.OK},
		{types(num(strings.Repeat("x", 32), 4)), 0, api.OK},
		{types(num(strings.Repeat("x", 33), 4)), 1, api.ErrBtfName},
		{types(u32, num("u32", 8)), 2, api.ErrBtfName},
		{types(u32, alias("u32", 1), rec("u32", 0)), 0, api.OK},
		{types(u32, alias("a", 1), alias("a", 1)), 3, api.ErrBtfName},
		{types(rec("a", 0), u8, rec("a", 0)), 3, api.ErrBtfName},
		{types(u32, api.Type{Kind: api.TPtr, Name: "p", To: 1}), 2, api.ErrBtfName},
		{types(u32, api.Type{Kind: api.TArray, Name: "p", To: 1}), 2, api.ErrBtfName},
		{types(u32, api.Type{Kind: api.TFunc, Name: "p"}), 2, api.ErrBtfName},
		{types(num("", 3)), 1, api.ErrBtfName},
		// Sizes.
		{types(num("a", 0)), 1, api.ErrBtfSize}, {types(num("a", 3)), 1, api.ErrBtfSize}, {types(num("a", 16)), 1, api.ErrBtfSize}, {types(num("a", -1)), 1, api.ErrBtfSize},
		{types(num("a", 1), num("b", 2), num("c", 4), num("d", 8)), 0, api.OK},
		{types(u8, arr(1, -1)), 2, api.ErrBtfSize}, {types(u8, arr(1, 65537)), 2, api.ErrBtfSize}, {types(u8, arr(1, 65536)), 0, api.OK}, {types(u8, arr(1, 0)), 0, api.OK},
		{types(rec("a", -1)), 1, api.ErrBtfSize}, {types(rec("a", 65537)), 1, api.ErrBtfSize}, {types(rec("a", 65536)), 0, api.OK},
		{types(arr(9, -1)), 1, api.ErrBtfSize},
		// Members' names.
		{types(u32, rec("a", 4, mem("", 1, 0))), 2, api.ErrBtfName}, {types(u32, rec("a", 4, mem("8", 1, 0))), 2, api.ErrBtfName},
		{types(u32, rec("a", 8, mem("x", 1, 0), mem("x", 1, 32))), 2, api.ErrBtfName}, {types(u32, rec("a", 8, mem("x", 1, 0), mem("y", 1, 32))), 0, api.OK},
		{types(u32, fun(0, mem("", 1, 0), mem("a", 1, 0))), 0, api.OK}, {types(u32, fun(0, mem("a", 1, 0), mem("a", 1, 0))), 2, api.ErrBtfName},
		{types(u32, fun(0, mem("?", 1, 0))), 2, api.ErrBtfName},
		{types(u32, fun(0, mem("", 1, 0), mem("", 1, 0))), 2, api.ErrBtfName},
		{types(rec("a", 4, mem("", 9, 0))), 1, api.ErrBtfName},
		// References.
		{types(u32, ptr(0)), 0, api.OK}, {types(u32, ptr(2)), 0, api.OK}, {types(u32, ptr(3)), 2, api.ErrBtfType}, {types(u32, ptr(-1)), 2, api.ErrBtfType},
		{types(u32, fun(0)), 0, api.OK}, {types(u32, fun(2)), 0, api.OK}, {types(u32, fun(3)), 2, api.ErrBtfType}, {types(u32, fun(-1)), 2, api.ErrBtfType},
		{types(u32, alias("a", 0)), 2, api.ErrBtfType}, {types(u32, alias("a", 3)), 2, api.ErrBtfType}, {types(u32, alias("a", 1)), 0, api.OK},
		{types(u32, arr(0, 1)), 2, api.ErrBtfType}, {types(u32, arr(3, 1)), 2, api.ErrBtfType},
		{types(api.Type{Kind: api.TInt, Name: "a", Size: 4, To: 1}), 1, api.ErrBtfType},
		{types(api.Type{Kind: api.TStruct, Name: "a", Size: 4, To: 1}), 1, api.ErrBtfType},
		{types(u32, rec("a", 4, mem("x", 0, 0))), 2, api.ErrBtfType}, {types(u32, rec("a", 4, mem("x", 3, 0))), 2, api.ErrBtfType},
		{types(u32, fun(0, mem("x", 3, 0))), 2, api.ErrBtfType},
		// Fields that a kind doesn't have.
		{types(api.Type{Kind: api.TInt, Name: "a", Size: 4, Count: 1}), 1, api.ErrBtfType},
		{types(u8, api.Type{Kind: api.TInt, Name: "a", Size: 4, Members: []api.Member{mem("x", 1, 0)}}), 2, api.ErrBtfType},
		{types(api.Type{Kind: api.TInt, Name: "a", Size: 4, Signed: true}), 0, api.OK},
		{types(u8, api.Type{Kind: api.TPtr, To: 1, Size: 8}), 2, api.ErrBtfType},
		{types(u8, api.Type{Kind: api.TPtr, To: 1, Count: 8}), 2, api.ErrBtfType},
		{types(u8, api.Type{Kind: api.TPtr, To: 1, Signed: true}), 2, api.ErrBtfType},
		{types(u8, api.Type{Kind: api.TArray, To: 1, Size: 8}), 2, api.ErrBtfType},
		{types(u8, api.Type{Kind: api.TArray, To: 1, Members: []api.Member{mem("x", 1, 0)}}), 2, api.ErrBtfType},
		{types(api.Type{Kind: api.TStruct, Name: "a", Count: 1}), 1, api.ErrBtfType},
		{types(api.Type{Kind: api.TStruct, Name: "a", Signed: true}), 1, api.ErrBtfType},
		{types(u8, api.Type{Kind: api.TAlias, Name: "a", To: 1, Size: 1}), 2, api.ErrBtfType},
		{types(u8, api.Type{Kind: api.TAlias, Name: "a", To: 1, Members: []api.Member{mem("x", 1, 0)}}), 2, api.ErrBtfType},
		{types(api.Type{Kind: api.TFunc, Size: 1}), 1, api.ErrBtfType}, {types(api.Type{Kind: api.TFunc, Count: 1}), 1, api.ErrBtfType},
		{types(u8, fun(0, mem("x", 1, 8))), 2, api.ErrBtfType},
	} {
		if at, e := btf.Check(c.l); at != c.at || e != c.want {
			t.Errorf("P4.1: %+v: %d, %d, want %d, %d", c.l, at, e, c.at, c.want)
		}
	}
}

// TestWhole: P4.1, types among others.
func TestWhole(t *testing.T) {
	u32, u8 := num("u32", 4), num("u8", 1)
	for _, c := range []struct {
		l    []api.Type
		at   int
		want api.Errno
	}{
		// Cycles.
		{types(alias("a", 1)), 1, api.ErrBtfCycle},
		{types(arr(1, 0)), 1, api.ErrBtfCycle},
		{types(rec("a", 8, mem("x", 1, 0))), 1, api.ErrBtfCycle},
		{types(rec("a", 8, mem("x", 2, 0)), ptr(1)), 0, api.OK},
		{types(rec("a", 8, mem("x", 2, 0)), arr(3, 1), alias("b", 1)), 1, api.ErrBtfCycle},
		{types(u8, arr(3, 1), alias("b", 4), alias("c", 3)), 3, api.ErrBtfCycle},
		{types(fun(1, mem("x", 2, 0)), u8), 0, api.OK},
		{types(ptr(1)), 0, api.OK},
		{types(alias("a", 3), rec("s", 4), fun(1)), 0, api.OK},
		// Functions.
		{types(fun(0), arr(1, 0)), 2, api.ErrBtfType},
		{types(fun(0), alias("f", 1), arr(2, 1)), 3, api.ErrBtfType},
		{types(fun(0), alias("f", 1), rec("s", 8, mem("x", 2, 0))), 3, api.ErrBtfType},
		{types(fun(0), fun(1, mem("", 1, 0))), 2, api.ErrBtfType},
		{types(fun(0), ptr(1), arr(2, 1), rec("s", 8, mem("x", 2, 0)), alias("f", 1), fun(5)), 0, api.OK},
		// Cycles come ahead of functions, these ahead of sizes.
		{types(fun(0), arr(1, 1), alias("a", 3)), 3, api.ErrBtfCycle},
		{types(u32, arr(1, 65536), fun(0), arr(3, 1)), 4, api.ErrBtfType},
		// Sizes.
		{types(u8, arr(1, 65536)), 0, api.OK},
		{types(u32, arr(1, 16384)), 0, api.OK},
		{types(u32, arr(1, 16385)), 2, api.ErrBtfSize},
		{types(u32, arr(1, 16384), arr(2, 1), arr(2, 2)), 4, api.ErrBtfSize},
		{types(arr(2, 0), arr(3, 65536), arr(4, 65536), arr(5, 65536), num("u64", 8)), 2, api.ErrBtfSize},
		{types(u8, arr(1, 65536), arr(2, 65536), arr(3, 65536), arr(4, 65536), arr(5, 65536)), 3, api.ErrBtfSize},
		{types(u8, arr(1, 0), arr(2, 65536), arr(3, 65536)), 0, api.OK},
		{types(u32, rec("s", 4, mem("x", 1, 4))), 2, api.ErrBtfSize},
		{types(u32, rec("s", 4, mem("x", 1, -8))), 2, api.ErrBtfSize},
		{types(u32, rec("s", 4, mem("x", 1, -32))), 2, api.ErrBtfSize},
		{types(u32, rec("s", 5, mem("x", 1, 8))), 0, api.OK},
		{types(u32, rec("s", 4, mem("x", 1, 8))), 2, api.ErrBtfSize},
		{types(u32, rec("s", 8, mem("x", 1, 0), mem("y", 1, 24))), 2, api.ErrBtfSize},
		{types(u32, rec("s", 8, mem("x", 1, 32), mem("y", 1, 0))), 2, api.ErrBtfSize},
		{types(u32, rec("s", 8, mem("x", 1, 1<<62))), 2, api.ErrBtfSize},
		{types(u32, arr(1, 0), rec("s", 8, mem("x", 1, 0), mem("y", 2, 32), mem("z", 1, 32), mem("e", 2, 64))), 0, api.OK},
		{types(u32, arr(1, 0), rec("s", 8, mem("e", 2, 72))), 3, api.ErrBtfSize},
		{types(rec("s", 8, mem("x", 2, 0), mem("y", 2, 64)), ptr(1)), 1, api.ErrBtfSize},
	} {
		if at, e := btf.Check(c.l); at != c.at || e != c.want {
			t.Errorf("P4.1: %+v: %d, %d, want %d, %d", c.l, at, e, c.at, c.want)
		}
		if c.want == api.OK {
			continue
		}
		if b, e := btf.Encode(c.l); len(b) != 0 || e != c.want {
			t.Errorf("P4.4: %+v: %d", c.l, e)
		}
		_, e1 := btf.Size(c.l, 1)
		_, e2 := btf.Resolve(c.l, 99)
		_, e3 := btf.Field(c.l, 1, -1, 3)
		if e1 != c.want || e2 != c.want || e3 != c.want {
			t.Errorf("P4.2: %+v: %d, %d, %d, want %d", c.l, e1, e2, e3, c.want)
		}
	}
}

// TestMany: P4.1 at the limits.
func TestMany(t *testing.T) {
	var l []api.Type
	for range 256 {
		l = append(l, ptr(0))
	}
	if at, e := btf.Check(l); at != 0 || e != api.OK {
		t.Errorf("P4.1: 256 types: %d, %d", at, e)
	}
	if at, e := btf.Check(append(l, api.Type{})); at != 0 || e != api.ErrBtfMany {
		t.Errorf("P4.1: 257 types: %d, %d", at, e)
	}
	var m []api.Member
	for i := range 65 {
		m = append(m, mem("m"+strings.Repeat("x", i%30)+string(rune('a'+i/30)), 1, 8*i))
	}
	if at, e := btf.Check(types(num("u8", 1), rec("s", 64, m[:64]...))); at != 0 || e != api.OK {
		t.Errorf("P4.1: 64 members: %d, %d", at, e)
	}
	if at, e := btf.Check(types(api.Type{}, rec("s", 65, m...))); at != 0 || e != api.ErrBtfMany {
		t.Errorf("P4.1: 65 members: %d, %d", at, e)
	}
	if at, e := btf.Check(types(api.Type{}, fun(0, m...))); at != 0 || e != api.ErrBtfMany {
		t.Errorf("P4.1: 65 parameters: %d, %d", at, e)
	}
	// A long row of arrays, whose size would be 65536^255.
	deep := types(num("u8", 1))
	for range 255 {
		deep = append(deep, arr(len(deep), 65536))
	}
	if at, e := btf.Check(deep); at != 3 || e != api.ErrBtfSize {
		t.Errorf("P4.1: deep: %d, %d", at, e)
	}
}

// sample: types of all kinds.
func sample() []api.Type {
	return types(
		num("u8", 1), num("u32", 4), num("u64", 8), ptr(6), arr(2, 3),
		rec("node", 40, mem("next", 4, 0), mem("row", 5, 64), mem("low", 1, 160), mem("pair", 8, 192)),
		fun(2, mem("", 1, 0), mem("x", 4, 0)), rec("pair", 8, mem("a", 2, 0), mem("b", 9, 32)), alias("word", 2),
		alias("proc", 7), arr(8, 4), alias("pairs", 11), arr(6, 0), rec("empty", 0),
	)
}

// TestSize: P4.2.
func TestSize(t *testing.T) {
	l := sample()
	want := []int{-1, 1, 4, 8, 8, 12, 40, -1, 8, 4, -1, 32, 32, 0, 0, -1}
	same := []int{-1, 1, 2, 3, 4, 5, 6, 7, 8, 2, 7, 11, 11, 13, 14, -1}
	for id := -1; id <= len(l)+1; id++ {
		n, e := btf.Size(l, id)
		r, f := btf.Resolve(l, id)
		if id < 0 || want[id] < 0 {
			if n != 0 || e != api.ErrBtfType {
				t.Errorf("P4.2: Size of %d: %d, %d", id, n, e)
			}
		} else if n != want[id] || e != api.OK {
			t.Errorf("P4.2: Size of %d: %d, %d", id, n, e)
		}
		if id < 0 || same[id] < 0 {
			if r != 0 || f != api.ErrBtfType {
				t.Errorf("P4.2: Resolve of %d: %d, %d", id, r, f)
			}
		} else if r != same[id] || f != api.OK {
			t.Errorf("P4.2: Resolve of %d: %d, %d", id, r, f)
		}
	}
}

// TestField: P4.3.
func TestField(t *testing.T) {
	l := sample()
	for _, c := range []struct {
		id, off, size int
		want          string
		e             api.Errno
	}{
		{8, 4, 4, ".b", api.OK}, {8, 2, 4, "", api.ErrBtfType}, {8, 0, 8, "", api.ErrBtfType}, {8, 0, 4, ".a", api.OK}, {8, 3, 1, ".a", api.OK}, {8, 3, 2, "", api.ErrBtfType},
		{8, 5, 4, "", api.ErrBtfSize}, {8, 8, 1, "", api.ErrBtfSize}, {8, -1, 1, "", api.ErrBtfSize}, {8, 0, 3, "", api.ErrBtfSize}, {8, 0, 0, "", api.ErrBtfSize},
		{8, 0, 16, "", api.ErrBtfSize}, {8, 0, -1, "", api.ErrBtfSize}, {8, 1<<63 - 1, 8, "", api.ErrBtfSize}, {8, -1 << 63, 8, "", api.ErrBtfSize},
		{1, 0, 1, "", api.OK}, {3, 0, 8, "", api.OK}, {3, 4, 4, "", api.OK}, {4, 0, 8, "", api.OK}, {1, 0, 2, "", api.ErrBtfSize},
		{5, 0, 4, "[0]", api.OK}, {5, 8, 4, "[2]", api.OK}, {5, 9, 2, "[2]", api.OK}, {5, 2, 4, "", api.ErrBtfType}, {5, 12, 1, "", api.ErrBtfSize},
		{6, 0, 8, ".next", api.OK}, {6, 12, 4, ".row[1]", api.OK}, {6, 20, 1, ".low", api.OK}, {6, 21, 1, "", api.ErrBtfType}, {6, 20, 2, "", api.ErrBtfType}, {6, 24, 4, ".pair.a", api.OK},
		{6, 30, 2, ".pair.b", api.OK}, {6, 32, 1, "", api.ErrBtfType}, {6, 16, 8, "", api.ErrBtfType},
		{12, 28, 4, "[3].b", api.OK}, {11, 8, 1, "[1].a", api.OK}, {9, 0, 4, "", api.OK},
		{13, 0, 1, "", api.ErrBtfSize}, {14, 0, 1, "", api.ErrBtfSize}, {7, 0, 1, "", api.ErrBtfType}, {10, 0, 1, "", api.ErrBtfType}, {0, 0, 1, "", api.ErrBtfType}, {15, 0, 3, "", api.ErrBtfType},
	} {
		if got, e := btf.Field(l, c.id, c.off, c.size); got != c.want || e != c.e {
			t.Errorf("P4.3: %+v: %q, %d", c, got, e)
		}
	}
	// P4.5: bytes that differ have ways that differ, or lie in one int.
	ways := map[string]int{}
	for off := range 40 {
		if way, e := btf.Field(l, 6, off, 1); e == api.OK {
			ways[way]++
		}
	}
	if want := map[string]int{".next": 8, ".row[0]": 4, ".row[1]": 4, ".row[2]": 4, ".low": 1, ".pair.a": 4, ".pair.b": 4}; !reflect.DeepEqual(ways, want) {
		t.Errorf("P4.5: %v", ways)
	}
}

// TestBytes: P4.4, P4.5.
func TestBytes(t *testing.T) {
	for _, l := range [][]api.Type{nil, types(num("a", 1)), sample(), types(api.Type{Kind: api.TInt, Name: "s", Size: 8, Signed: true})} {
		b, e := btf.Encode(l)
		if e != api.OK {
			t.Fatalf("P4.4: %d", e)
		}
		for _, behind := range []string{"", "x", "\x00\x00\x00\x00"} {
			m, n, e := btf.Decode(append(b[:len(b):len(b)], behind...))
			if e != api.OK || n != len(b) || len(m) != len(l) || len(l) > 0 && !reflect.DeepEqual(m, l) {
				t.Errorf("P4.5: %+v: %+v, %d, %d", l, m, n, e)
			}
		}
		for n := range len(b) {
			if m, k, e := btf.Decode(b[:n]); len(m) != 0 || k != 0 || e != api.ErrBtfForm {
				t.Errorf("P4.4: cut at %d: %v, %d, %d", n, m, k, e)
			}
		}
	}
	b, _ := btf.Encode(types(num("ab", 4), fun(1, mem("x", 1, 0))))
	want := "\x02\x00\x00\x00" + "\x01\x02ab\x04\x00\x00\x00\x00\x00\x00\x00\x00\x00\x00\x00\x00\x00\x00\x00\x00" +
		"\x06\x00\x00\x00\x00\x00\x00\x01\x00\x00\x00\x00\x00\x00\x00\x01\x00\x00\x00\x01x\x01\x00\x00\x00\x00\x00\x00\x00"
	if string(b) != want {
		t.Errorf("P4.4: %x", b)
	}
}

// TestDecodeWrong: P4.4: bytes that nothing encodes.
func TestDecodeWrong(t *testing.T) {
	b, _ := btf.Encode(sample())
	for at := range b {
		for _, v := range []byte{0, 1, 2, 0x80, 0xFF} {
			c := append([]byte(nil), b...)
			c[at] = v
			l, n, e := btf.Decode(c)
			if e != api.OK {
				if len(l) != 0 || n != 0 || e != api.ErrBtfForm {
					t.Errorf("P4.4: %d, %d, %d", len(l), n, e)
				}
				continue
			}
			if back, f := btf.Encode(l); f != api.OK || string(back) != string(c[:n]) {
				t.Errorf("P4.4: byte %d as %x is taken, and isn't told again", at, v)
			}
		}
	}
	huge := append([]byte{1, 0, 0, 0}, make([]byte, 18)...)
	for _, c := range [][]byte{nil, {1}, {0xFF, 0xFF, 0xFF, 0xFF}, {1, 1, 0, 0}, huge} {
		if l, n, e := btf.Decode(c); len(l) != 0 || n != 0 || e != api.ErrBtfForm {
			t.Errorf("P4.4: %x: %v, %d, %d", c, l, n, e)
		}
	}
}

// TestFresh: DOC.md: answers are new memory.
func TestFresh(t *testing.T) {
	l := sample()
	b, _ := btf.Encode(l)
	m, _, _ := btf.Decode(b)
	for i := range b {
		b[i] = 0xEE
	}
	m[5].Members[0].Name = "other"
	if !reflect.DeepEqual(l, sample()) || m[0].Name != "u8" {
		t.Error("Decode shares memory")
	}
}

// FuzzDecode: P4.4.
func FuzzDecode(f *testing.F) {
	b, _ := btf.Encode(sample())
	f.Add(b)
	f.Fuzz(func(t *testing.T, b []byte) {
		l, n, e := btf.Decode(b)
		if e != api.OK {
			return
		}
		if c, e := btf.Encode(l); e != api.OK || string(c) != string(b[:n]) {
			t.Fatal("P4.4")
		}
		for id := range len(l) + 2 {
			btf.Field(l, id, 3, 4)
		}
	})
}
