package maps_test

import (
	"bytes"
	"math/rand"
	"sort"
	"testing"

	"barbican/api"
	"barbican/maps"
	"barbican/region"
)

func made(t *testing.T, def api.MapDef) (*maps.Map, *region.Mem) {
	t.Helper()
	mem := region.New()
	m, e := maps.New(def, mem)
	if e != api.OK || m == nil {
		t.Fatalf("P9.1: %+v: %d", def, e)
	}
	return m, mem
}

func array(value, entries int) api.MapDef {
	return api.MapDef{Kind: api.MArray, Key: 4, Value: value, Entries: entries}
}

func hash(key, value, entries int) api.MapDef {
	return api.MapDef{Kind: api.MHash, Key: key, Value: value, Entries: entries}
}

var progs = api.MapDef{Kind: api.MProgs, Key: 4, Value: 4, Entries: 3}

func is(t *testing.T, got, want api.Errno, what string) {
	t.Helper()
	if got != want {
		t.Errorf("%s: %d, want %d", what, got, want)
	}
}

// TestNew: P9.1.
func TestNew(t *testing.T) {
	for _, def := range []api.MapDef{{}, {Kind: api.MRing, Entries: 8}, array(0, 1), array(1, 65), hash(0, 1, 1), {Kind: api.MProgs, Key: 4, Value: 4}, {Kind: 9}} {
		if m, e := maps.New(def, region.New()); m != nil || e != api.ErrMapsDef {
			t.Errorf("P9.1: %+v: %d", def, e)
		}
	}
	typed := array(8, 3)
	typed.Type = 77
	m, mem := made(t, typed)
	for i := range byte(3) {
		id, ok, e := m.Lookup([]byte{i, 0, 0, 0})
		b, _ := mem.Bytes(id)
		if id != int(i)+1 || !ok || e != api.OK || string(b) != "\x00\x00\x00\x00\x00\x00\x00\x00" || !mem.Live(id) {
			t.Errorf("P9.1: entry %d: %d, %v, %d", i, id, ok, e)
		}
	}
	if keys, e := m.Keys(); len(keys) != 3 || e != api.OK {
		t.Errorf("P9.4: %v", keys)
	}
	h, _ := made(t, hash(1, 1, 1))
	if keys, e := h.Keys(); len(keys) != 0 || e != api.OK {
		t.Errorf("P9.1: %v", keys)
	}
	p, _ := made(t, progs)
	for i := range uint64(5) {
		if n, ok := p.Prog(i); n != 0 || ok {
			t.Errorf("P9.1: Prog(%d)", i)
		}
	}
}

// TestArray: P9.2, P9.3 of arrays.
func TestArray(t *testing.T) {
	m, mem := made(t, array(2, 2))
	zero, one, two, far := []byte{0, 0, 0, 0}, []byte{1, 0, 0, 0}, []byte{2, 0, 0, 0}, []byte{0, 0, 0, 1}
	v := []byte{7, 8}
	for _, key := range [][]byte{two, far} {
		id, ok, e := m.Lookup(key)
		if id != 0 || ok || e != api.OK {
			t.Errorf("P9.3: Lookup(%v): %d, %v, %d", key, id, ok, e)
		}
		for flags := range uint64(3) {
			is(t, m.Update(key, v, flags), api.ErrMapsFull, "P9.3: no such entry")
		}
		b, e := m.Value(key)
		if len(b) != 0 || e != api.ErrMapsNone {
			t.Errorf("P9.3: Value: %v, %d", b, e)
		}
		_, e = m.Delete(key)
		is(t, e, api.ErrMapsOp, "P9.3: Delete")
	}
	is(t, m.Update(one, v, 1), api.ErrMapsHas, "P9.3: a new one")
	is(t, m.Update(one, v, 2), api.OK, "P9.3: one that is there")
	is(t, m.Update(zero, []byte{1, 2}, 0), api.OK, "P9.3: any")
	is(t, m.Update(zero, v, 3), api.ErrMapsFlag, "P9.3: flags")
	is(t, m.Update(two, v, 1<<63), api.ErrMapsFlag, "P9.3: flags come ahead of the entry")
	v[0] = 99
	if b, e := m.Value(one); string(b) != "\x07\x08" || e != api.OK {
		t.Errorf("P9.3: %v, %d", b, e)
	}
	id, _, _ := m.Lookup(one)
	b, _ := m.Value(one)
	b[0] = 55
	if got, _ := mem.Bytes(id); id != 2 || string(got) != "\x07\x08" {
		t.Errorf("P9.3: region %d: %v", id, got)
	}
	if key, ok := m.Key(2); string(key) != string(one) || !ok {
		t.Errorf("P9.4: %v, %v", key, ok)
	}
	if key, ok := m.Key(3); len(key) != 0 || ok {
		t.Errorf("P9.4: %v, %v", key, ok)
	}
}

// TestWrong: P9.2.
func TestWrong(t *testing.T) {
	a, _ := made(t, array(2, 2))
	h, _ := made(t, hash(3, 2, 2))
	p, _ := made(t, progs)
	good, v := []byte{0, 0, 0, 0}, []byte{1, 2}
	for _, c := range []struct {
		m    *maps.Map
		key  []byte
		v    []byte
		f    uint64
		want api.Errno
	}{
		{p, good, good, 0, api.ErrMapsOp}, {p, nil, nil, 9, api.ErrMapsOp},
		{a, nil, v, 0, api.ErrMapsKey}, {a, good[:3], v, 0, api.ErrMapsKey}, {a, append(good, 0), v, 9, api.ErrMapsKey},
		{h, good, v, 0, api.ErrMapsKey}, {h, good[:2], v, 9, api.ErrMapsKey},
	} {
		is(t, c.m.Update(c.key, c.v, c.f), c.want, "P9.2: Update")
		id, ok, e := c.m.Lookup(c.key)
		if id != 0 || ok || e != c.want {
			t.Errorf("P9.2: Lookup: %d, %v, %d, want %d", id, ok, e, c.want)
		}
		b, e := c.m.Value(c.key)
		if len(b) != 0 || e != c.want {
			t.Errorf("P9.2: Value: %v, %d, want %d", b, e, c.want)
		}
		id, e = c.m.Delete(c.key)
		if id != 0 || e != c.want {
			t.Errorf("P9.2: Delete: %d, %d, want %d", id, e, c.want)
		}
	}
	is(t, a.Update(good, v[:1], 9), api.ErrMapsKey, "P9.2: value")
	is(t, h.Update(good[:3], append(v, 0), 9), api.ErrMapsKey, "P9.2: value")
	for _, m := range []*maps.Map{a, h} {
		is(t, m.Set(0, 0), api.ErrMapsOp, "P9.4: Set")
		is(t, m.Set(-1, -2), api.ErrMapsOp, "P9.4: Set")
		if n, ok := m.Prog(0); n != 0 || ok {
			t.Errorf("P9.4: Prog: %d, %v", n, ok)
		}
	}
	if keys, e := p.Keys(); len(keys) != 0 || e != api.ErrMapsOp {
		t.Errorf("P9.4: Keys: %v, %d", keys, e)
	}
	if key, ok := p.Key(1); len(key) != 0 || ok {
		t.Errorf("P9.4: Key: %v, %v", key, ok)
	}
}

// TestHash: P9.3 of hashes.
func TestHash(t *testing.T) {
	m, mem := made(t, hash(1, 2, 2))
	a, b, c := []byte{9}, []byte{3}, []byte{5}
	is(t, m.Update(a, []byte{1, 1}, 2), api.ErrMapsNone, "P9.3: one that is there")
	is(t, m.Update(a, []byte{1, 1}, 1), api.OK, "P9.3: a new one")
	is(t, m.Update(a, []byte{2, 2}, 1), api.ErrMapsHas, "P9.3: a new one")
	is(t, m.Update(a, []byte{3, 3}, 2), api.OK, "P9.3: one that is there")
	is(t, m.Update(b, []byte{4, 4}, 0), api.OK, "P9.3: any")
	is(t, m.Update(c, []byte{4, 4}, 0), api.ErrMapsFull, "P9.3: full")
	is(t, m.Update(c, []byte{4, 4}, 1), api.ErrMapsFull, "P9.3: full")
	is(t, m.Update(c, []byte{4, 4}, 2), api.ErrMapsNone, "P9.3: full, and none")
	is(t, m.Update(c, []byte{4, 4}, 3), api.ErrMapsFlag, "P9.3: full, and no such flag")
	is(t, m.Update(a, []byte{5, 5}, 0), api.OK, "P9.3: full, and there")
	keys, e := m.Keys()
	if e != api.OK || len(keys) != 2 || string(keys[0]) != "\x03" || string(keys[1]) != "\x09" {
		t.Errorf("P9.4: %v, %d", keys, e)
	}
	id, ok, _ := m.Lookup(a)
	if v, _ := m.Value(a); id != 1 || !ok || string(v) != "\x05\x05" {
		t.Errorf("P9.3: %d, %v, %v", id, ok, v)
	}
	gone, e := m.Delete(a)
	if gone != 1 || e != api.OK || !mem.Live(1) {
		t.Errorf("P9.3: Delete: %d, %d", gone, e)
	}
	_, e = m.Delete(a)
	is(t, e, api.ErrMapsNone, "P9.3: Delete again")
	if _, ok := m.Key(1); ok {
		t.Error("P9.4: the key of what is deleted")
	}
	is(t, m.Update(a, []byte{6, 6}, 1), api.OK, "P9.3: anew")
	if id, _, _ := m.Lookup(a); id != 3 {
		t.Errorf("P9.3: a new one's region: %d", id)
	}
}

// TestTimer: P9.3: bytes that are hidden.
func TestTimer(t *testing.T) {
	def := hash(1, 18, 2)
	def.Timer = true
	m, mem := made(t, def)
	v := bytes.Repeat([]byte{7}, 18)
	is(t, m.Update([]byte{1}, v, 0), api.OK, "P9.3")
	if got, _ := m.Value([]byte{1}); string(got) != string(make([]byte, 16))+"\x07\x07" {
		t.Errorf("P9.3: hidden bytes of a new entry: %v", got)
	}
	id, _, _ := m.Lookup([]byte{1})
	mem.Set(id, 0, []byte{1, 2, 3})
	is(t, m.Update([]byte{1}, bytes.Repeat([]byte{9}, 18), 0), api.OK, "P9.3")
	if got, _ := m.Value([]byte{1}); string(got) != "\x01\x02\x03"+string(make([]byte, 13))+"\x09\x09" {
		t.Errorf("P9.3: hidden bytes stay: %v", got)
	}
	if _, trap := mem.Load(api.Val{Kind: api.VMem, Id: id, Off: 15}, 1); trap != api.TrapTag {
		t.Errorf("the first TimerSize bytes are hidden: %d", trap)
	}
	if trap := mem.Store(api.Val{Kind: api.VMem, Id: id, Off: 16}, 1, api.Val{Kind: api.VNum, Num: 5}); trap != 0 {
		t.Errorf("the others may be written: %d", trap)
	}
	arr := array(16, 1)
	arr.Timer = true
	a, amem := made(t, arr)
	is(t, a.Update(make([]byte, 4), bytes.Repeat([]byte{9}, 16), 0), api.OK, "P9.3")
	if got, _ := amem.Bytes(1); string(got) != string(make([]byte, 16)) {
		t.Errorf("P9.3: a value that is all timer: %v", got)
	}
}

// TestProgs: P9.4.
func TestProgs(t *testing.T) {
	m, _ := made(t, progs)
	is(t, m.Set(0, 5), api.OK, "P9.4: Set")
	is(t, m.Set(2, 0), api.OK, "P9.4: Set")
	is(t, m.Set(1, -1), api.OK, "P9.4: Set")
	for _, c := range [][2]int{{-1, 0}, {3, 0}, {0, -2}, {1 << 40, 0}} {
		is(t, m.Set(c[0], c[1]), api.ErrMapsKey, "P9.4: Set")
	}
	for i, want := range map[uint64]int{0: 5, 1: -1, 2: 0, 3: -1, 1 << 63: -1, 1<<64 - 1: -1} {
		n, ok := m.Prog(i)
		if ok != (want >= 0) || ok && n != want || !ok && n != 0 {
			t.Errorf("P9.4: Prog(%d): %d, %v", i, n, ok)
		}
	}
	is(t, m.Set(0, -1), api.OK, "P9.4: Set")
	if _, ok := m.Prog(0); ok {
		t.Error("P9.4: a program taken away")
	}
}

// TestRow: P9.5: a hash against a row of keys and values.
func TestRow(t *testing.T) {
	r := rand.New(rand.NewSource(1))
	m, mem := made(t, hash(2, 3, 5))
	row := map[string]string{}
	regions := map[string]int{}
	for range 20000 {
		key := []byte{byte(r.Intn(3)), byte(r.Intn(3))}
		k := string(key)
		_, there := row[k]
		switch r.Intn(3) {
		case 0:
			v, flags := []byte{byte(r.Intn(256)), 1, 2}, uint64(r.Intn(3))
			want := api.OK
			switch {
			case there && flags == 1:
				want = api.ErrMapsHas
			case !there && flags == 2:
				want = api.ErrMapsNone
			case !there && len(row) == 5:
				want = api.ErrMapsFull
			}
			is(t, m.Update(key, v, flags), want, "P9.5: Update")
			if want == api.OK {
				row[k] = string(v)
				if !there {
					regions[k], _, _ = m.Lookup(key)
				}
			}
		case 1:
			id, e := m.Delete(key)
			if there != (e == api.OK) || there && id != regions[k] || !mem.Live(regions[k]) && there {
				t.Fatalf("P9.5: Delete: %d, %d", id, e)
			}
			delete(row, k)
			delete(regions, k)
		case 2:
			id, ok, _ := m.Lookup(key)
			v, _ := m.Value(key)
			if ok != there || id != regions[k] || string(v) != row[k] {
				t.Fatalf("P9.5: Lookup: %d, %v, %v", id, ok, v)
			}
		}
		var want []string
		for k := range row {
			want = append(want, k)
		}
		sort.Strings(want)
		keys, _ := m.Keys()
		if len(keys) != len(want) {
			t.Fatalf("P9.5: %v, want %v", keys, want)
		}
		for i := range keys {
			if string(keys[i]) != want[i] {
				t.Fatalf("P9.5: %v, want %v", keys, want)
			}
		}
	}
}
