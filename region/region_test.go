package region_test

import (
	"math/rand"
	"testing"

	"barbican/api"
	"barbican/region"
)

func num(n uint64) api.Val            { return api.Val{Kind: api.VNum, Num: n} }
func stack(id int, off int64) api.Val { return api.Val{Kind: api.VStack, Id: id, Off: off} }
func place(id int, off int64) api.Val { return api.Val{Kind: api.VMem, Id: id, Off: off} }
func pointer() api.Val                { return api.Val{Kind: api.VMap, Id: 7, Off: 3} }
func bytesOf(n int) []byte            { return make([]byte, n) }
func of(kind int, off int64) api.Val  { return api.Val{Kind: kind, Id: 1, Off: off} }
func is(t *testing.T, got, want int, what string) {
	t.Helper()
	if got != want {
		t.Errorf("%s: trap %d, want %d", what, got, want)
	}
}

// TestNumbers: P8.1: numbers, lives, bytes.
func TestNumbers(t *testing.T) {
	m := region.New()
	b := []byte{1, 2, 3}
	for i, id := range []int{m.Add(b, true, 0), m.Frame(), m.Add(nil, false, 5), m.Frame(), m.Add(b, true, -1)} {
		if id != i+1 || !m.Live(id) {
			t.Errorf("P8.1: the number %d, want %d", id, i+1)
		}
	}
	b[0] = 9
	if got, ok := m.Bytes(1); string(got) != "\x01\x02\x03" || !ok {
		t.Errorf("P8.1: %v, %v", got, ok)
	}
	for _, id := range []int{0, 2, 4, 6, -1} {
		if got, ok := m.Bytes(id); len(got) != 0 || ok {
			t.Errorf("P8.1: Bytes(%d)", id)
		}
		if m.Set(id, 0, nil) {
			t.Errorf("P8.1: Set(%d)", id)
		}
	}
	if m.Kill(0) || m.Kill(6) || !m.Kill(1) || m.Kill(1) || !m.Kill(2) || m.Kill(2) || m.Live(1) || m.Live(2) || m.Live(0) || m.Live(6) || !m.Live(3) {
		t.Error("P8.1: Kill, Live")
	}
	if !m.Set(1, 1, []byte{8, 9}) || m.Set(1, 2, []byte{1, 1}) || m.Set(1, -1, []byte{1}) || m.Set(1, 1<<62, []byte{1}) || !m.Set(1, 3, nil) {
		t.Error("P8.1: Set")
	}
	if got, ok := m.Bytes(1); string(got) != "\x01\x08\x09" || !ok {
		t.Errorf("P8.1: bytes of one that is dead: %v, %v", got, ok)
	}
	got, _ := m.Bytes(5)
	got[0] = 77
	if again, _ := m.Bytes(5); again[0] != 1 {
		t.Error("P8.1: Bytes shares memory")
	}
	if id := m.Frame(); id != 6 {
		t.Errorf("P8.1: the number %d behind those that are dead", id)
	}
	other := region.New()
	if other.Live(3) || other.Frame() != 1 {
		t.Error("two memories touch one another")
	}
}

// TestPoints: P8.2, in the order of its traps.
func TestPoints(t *testing.T) {
	m := region.New()
	r, f := m.Add(bytesOf(10), true, 0), m.Frame()
	dead, gone := m.Add(bytesOf(10), true, 0), m.Frame()
	m.Kill(dead)
	m.Kill(gone)
	for _, c := range []struct {
		p    api.Val
		n    int
		want int
	}{
		{api.Val{}, 4, api.TrapUninit}, {num(5), 4, api.TrapNum}, {of(api.VCtx, 0), 4, api.TrapPtr}, {of(api.VMap, 0), 4, api.TrapPtr}, {of(api.VSock, 0), 4, api.TrapPtr},
		{of(api.VFunc, 0), 4, api.TrapPtr}, {of(99, 0), 4, api.TrapPtr}, {of(-1, 0), 4, api.TrapPtr},
		{place(dead, 0), 4, api.TrapDead}, {place(dead, 99), 4, api.TrapDead}, {stack(gone, -8), 4, api.TrapDead}, {place(99, 0), 4, api.TrapDead}, {stack(0, -8), 4, api.TrapDead},
		{place(f, 0), 4, api.TrapDead}, {stack(r, -8), 4, api.TrapDead},
		{place(r, 0), 8, 0}, {place(r, 2), 8, 0}, {place(r, 3), 8, api.TrapBounds}, {place(r, -1), 1, api.TrapBounds}, {place(r, 9), 1, 0}, {place(r, 10), 1, api.TrapBounds},
		{place(r, 1<<63-1), 8, api.TrapBounds}, {place(r, -1<<63), 8, api.TrapBounds},
		{stack(f, -512), 8, 0}, {stack(f, -513), 1, api.TrapBounds}, {stack(f, -8), 8, 0}, {stack(f, -7), 8, api.TrapBounds}, {stack(f, 0), 1, api.TrapBounds}, {stack(f, -1), 1, 0},
	} {
		is(t, m.Can(c.p, c.n), c.want, "P8.2: Can")
		is(t, m.Store(c.p, c.n, num(0)), c.want, "P8.2: Store")
		is(t, m.Write(c.p, bytesOf(c.n)), c.want, "P8.2: Write")
		v, trap := m.Load(c.p, c.n)
		is(t, trap, c.want, "P8.2: Load")
		b, trap := m.Read(c.p, c.n)
		is(t, trap, c.want, "P8.2: Read")
		if c.want != 0 && (v != (api.Val{}) || len(b) != 0) || c.want == 0 && (v != num(0) || len(b) != c.n) {
			t.Errorf("P8.2: %+v: %v, %v", c.p, v, b)
		}
	}
	for _, n := range []int{-1, -1 << 63} {
		is(t, m.Can(place(r, 5), n), api.TrapBounds, "P8.2: n below 0")
		_, trap := m.Read(stack(f, -8), n)
		is(t, trap, api.TrapBounds, "P8.2: n below 0")
	}
	_, trap := m.Read(place(r, 0), 1<<62)
	is(t, trap, api.TrapBounds, "P8.2: more than there is")
	// P8.5: no bytes at all.
	for _, p := range []api.Val{place(r, 0), place(r, 10), stack(f, -512), stack(f, 0)} {
		b, trap := m.Read(p, 0)
		if len(b) != 0 || trap != 0 || m.Can(p, 0) != 0 || m.Write(p, nil) != 0 {
			t.Errorf("P8.5: nothing at %+v: %v, %d", p, b, trap)
		}
	}
	is(t, m.Can(place(dead, 0), 0), api.TrapDead, "P8.5: nothing of what is dead")
}

// TestRegion: P8.3, P8.4, P8.5 of regions.
func TestRegion(t *testing.T) {
	m := region.New()
	r := m.Add([]byte{1, 2, 3, 4, 5, 6, 7, 8, 9, 10, 11, 12}, true, 2)
	fixed := m.Add([]byte{1, 2, 3, 4, 5, 6, 7, 8, 9, 10, 11, 12}, false, 2)
	all := m.Add([]byte{1, 2, 3}, true, 9)
	for size, want := range map[int]uint64{1: 3, 2: 0x0403, 4: 0x06050403, 8: 0x0A09080706050403} {
		for _, id := range []int{r, fixed} {
			v, trap := m.Load(place(id, 2), size)
			if v != num(want) || trap != 0 {
				t.Errorf("P8.3: %d bytes: %+v, %d", size, v, trap)
			}
			_, trap = m.Load(place(id, 1), size)
			is(t, trap, api.TrapTag, "P8.3: hidden")
		}
	}
	for _, size := range []int{0, 3, 5, 16, -1} {
		_, trap := m.Load(place(99, 0), size)
		is(t, trap, api.TrapArg, "P8.3: size")
		_, trap = m.Load(num(0), size)
		is(t, trap, api.TrapNum, "P8.3: size")
		is(t, m.Store(place(99, 0), size, num(1)), api.TrapArg, "P8.4: size")
		is(t, m.Store(place(99, 0), size, api.Val{}), api.TrapUninit, "P8.4: value")
		is(t, m.Store(of(api.VCtx, 0), size, api.Val{}), api.TrapPtr, "P8.4: pointer")
	}
	is(t, m.Store(place(r, 4), 4, num(0xAABBCCDDEEFF0011)), 0, "P8.4")
	is(t, m.Store(place(fixed, 99), 4, num(1)), api.TrapBounds, "P8.4: bounds")
	is(t, m.Store(place(fixed, 0), 4, pointer()), api.TrapWrite, "P8.4: not to be written")
	is(t, m.Store(place(r, 0), 4, pointer()), api.TrapTag, "P8.4: hidden")
	is(t, m.Store(place(r, 4), 8, pointer()), api.TrapSpill, "P8.4: pointer")
	is(t, m.Store(place(r, 4), 8, api.Val{Kind: 99}), api.TrapSpill, "P8.4: what is no number")
	is(t, m.Can(place(fixed, 0), 4), api.TrapWrite, "P8.5: Can")
	is(t, m.Can(place(r, 1), 4), api.TrapTag, "P8.5: Can")
	is(t, m.Can(place(all, 0), 3), api.TrapTag, "P8.1: hidden is at most all")
	is(t, m.Write(place(r, 1), bytesOf(2)), api.TrapTag, "P8.5: Write")
	is(t, m.Write(place(fixed, 3), bytesOf(2)), api.TrapWrite, "P8.5: Write")
	is(t, m.Write(place(r, 10), []byte{0x21, 0x22}), 0, "P8.5: Write")
	_, trap := m.Read(place(r, 1), 3)
	is(t, trap, api.TrapTag, "P8.5: Read")
	b, trap := m.Read(place(r, 2), 10)
	if string(b) != "\x03\x04\x11\x00\xFF\xEE\x09\x0A\x21\x22" || trap != 0 {
		t.Errorf("P8.5: %x, %d", b, trap)
	}
	if got, _ := m.Bytes(fixed); got[2] != 3 {
		t.Error("P8.7: a call touches another region's bytes")
	}
}

// TestExamples: the chapter's.
func TestExamples(t *testing.T) {
	m := region.New()
	f := m.Frame()
	is(t, m.Store(stack(f, -8), 8, pointer()), 0, "store")
	v, trap := m.Load(stack(f, -8), 8)
	if v != pointer() || trap != 0 {
		t.Errorf("P8.7: %+v, %d", v, trap)
	}
	_, trap = m.Load(stack(f, -8), 4)
	is(t, trap, api.TrapSpill, "a piece of a pointer")
	is(t, m.Store(stack(f, -3), 1, num(0x1FF)), 0, "a byte over it")
	_, trap = m.Load(stack(f, -8), 8)
	is(t, trap, api.TrapUninit, "the rest")
	v, trap = m.Load(stack(f, -3), 1)
	if v != num(0xFF) || trap != 0 {
		t.Errorf("P8.4: %+v, %d", v, trap)
	}
	is(t, m.Store(stack(f, -12), 8, pointer()), api.TrapSpill, "a pointer across slots")
	is(t, m.Store(stack(f, -16), 4, pointer()), api.TrapSpill, "a pointer in four bytes")
	is(t, m.Store(stack(f, -16), 8, num(5)), 0, "a number")
	is(t, m.Store(stack(f, -16), 8, pointer()), 0, "a pointer over it")
	_, trap = m.Read(stack(f, -20), 8)
	is(t, trap, api.TrapSpill, "P8.5: a pointer anywhere")
	is(t, m.Write(stack(f, -20), bytesOf(8)), 0, "P8.5: over a pointer")
	_, trap = m.Read(stack(f, -20), 8)
	is(t, trap, 0, "P8.5")
	_, trap = m.Load(stack(f, -16), 8)
	is(t, trap, api.TrapUninit, "P8.5: what the pointer leaves")
}

// TestTags: P8.6.
func TestTags(t *testing.T) {
	m := region.New()
	f, r := m.Frame(), m.Add(bytesOf(32), true, 0)
	for _, c := range []struct {
		p    api.Val
		tag  int
		want int
	}{
		{place(r, 0), 1, api.TrapArg}, {api.Val{}, 1, api.TrapArg}, {num(0), 1, api.TrapArg}, {stack(f, -12), 1, api.TrapArg}, {stack(f, -16), 0, api.TrapArg},
		{stack(99, -16), 1, api.TrapDead}, {stack(f, -8), 1, api.TrapBounds}, {stack(f, 0), 1, api.TrapBounds}, {stack(f, -520), 1, api.TrapBounds},
		{stack(f, -512), 1, 0}, {stack(f, -16), -5, 0}, {stack(f, -16), 2, api.TrapTag}, {stack(f, -24), 2, api.TrapTag}, {stack(f, -32), -5, 0}, {stack(f, -504), 2, api.TrapTag},
	} {
		is(t, m.Mark(c.p, c.tag), c.want, "P8.6: Mark")
	}
	for _, c := range []struct {
		p    api.Val
		tag  int
		want int
	}{
		{place(r, 0), 0, api.TrapArg}, {api.Val{}, 0, api.TrapArg}, {stack(99, -16), 0, api.TrapDead}, {stack(f, -8), 0, api.TrapBounds},
		{stack(f, -16), -5, 0}, {stack(f, -32), -5, 0}, {stack(f, -24), 0, api.TrapTag}, {stack(f, -20), 0, api.TrapTag}, {stack(f, -48), 0, api.TrapTag}, {stack(f, -512), 1, 0},
	} {
		tag, trap := m.Tag(c.p)
		if tag != c.tag {
			t.Errorf("P8.6: Tag(%+v): %d", c.p, tag)
		}
		is(t, trap, c.want, "P8.6: Tag")
	}
	for off := int64(-32); off < 0; off++ {
		_, trap := m.Load(stack(f, off), 1)
		is(t, trap, api.TrapTag, "P8.3: tag")
		is(t, m.Store(stack(f, off), 1, num(0)), api.TrapTag, "P8.4: tag")
		is(t, m.Can(stack(f, off), 1), api.TrapTag, "P8.5: tag")
	}
	is(t, m.Store(stack(f, -16), 8, pointer()), api.TrapTag, "P8.4: a pointer over a tag")
	is(t, m.Store(stack(f, -34), 4, pointer()), api.TrapTag, "P8.4: the tag comes ahead of the pointer")
	_, trap := m.Read(stack(f, -40), 16)
	is(t, trap, api.TrapTag, "P8.5: tag")
	is(t, m.Clear(stack(f, -24)), api.TrapTag, "P8.6: Clear")
	is(t, m.Clear(num(1)), api.TrapArg, "P8.6: Clear")
	is(t, m.Clear(stack(f, -16)), 0, "P8.6: Clear")
	is(t, m.Clear(stack(f, -16)), api.TrapTag, "P8.6: Clear again")
	tag, trap := m.Tag(stack(f, -32))
	if tag != -5 || trap != 0 {
		t.Errorf("P8.6: the tag beside it: %d, %d", tag, trap)
	}
	_, trap = m.Load(stack(f, -8), 8)
	is(t, trap, api.TrapUninit, "P8.6: what a tag leaves")
	is(t, m.Store(stack(f, -8), 8, pointer()), 0, "P8.6: over it")
	is(t, m.Store(stack(f, -16), 8, num(7)), 0, "P8.6: over it")
	is(t, m.Mark(stack(f, -16), 3), 0, "P8.6: over a pointer and a number")
	is(t, m.Clear(stack(f, -16)), 0, "P8.6")
	_, trap = m.Load(stack(f, -16), 8)
	is(t, trap, api.TrapUninit, "P8.6: no byte is written")
	_, trap = m.Load(stack(f, -8), 8)
	is(t, trap, api.TrapUninit, "P8.6: no pointer is held")
}

// cell: a byte of the model's stack.
type cell struct {
	kind  int // 0 nothing, 1 a byte, 2 a part of a pointer, 3 of a tag
	value int
	first bool
}

// model: a frame, byte by byte.
type model [512]cell

func (m *model) readTrap(at, n int) int {
	for kind, trap := range map[int]int{3: api.TrapTag} {
		for i := at &^ 7; i < (at+n+7)&^7; i++ {
			if m[i].kind == kind {
				return trap
			}
		}
	}
	for i := at &^ 7; i < (at+n+7)&^7; i++ {
		if m[i].kind == 2 {
			return api.TrapSpill
		}
	}
	for i := at; i < at+n; i++ {
		if m[i].kind != 1 {
			return api.TrapUninit
		}
	}
	return 0
}

func (m *model) tagged(at, n int) bool {
	for i := at &^ 7; i < (at+n+7)&^7; i++ {
		if m[i].kind == 3 {
			return true
		}
	}
	return false
}

func (m *model) put(at int, b []byte) {
	for i, x := range b {
		slot := (at + i) &^ 7
		if m[slot].kind == 2 {
			for j := slot; j < slot+8; j++ {
				m[j] = cell{}
			}
		}
		m[at+i] = cell{kind: 1, value: int(x)}
	}
}

// TestModel: P8.3 to P8.7 of frames, against a model of bytes, in two frames.
func TestModel(t *testing.T) {
	r := rand.New(rand.NewSource(1))
	mem := region.New()
	ids := []int{mem.Frame(), mem.Frame()}
	models := []*model{{}, {}}
	for range 200000 {
		k := r.Intn(2)
		m, size := models[k], []int{1, 2, 4, 8}[r.Intn(4)]
		at := r.Intn(80)
		if r.Intn(2) == 0 {
			at &^= 7
		}
		p := stack(ids[k], int64(at-512))
		n := r.Intn(24)
		switch r.Intn(8) {
		case 0, 1:
			v, trap := mem.Load(p, size)
			want, val := m.readTrap(at, size), num(0)
			if want == api.TrapSpill && size == 8 && at%8 == 0 {
				want, val = 0, api.Val{Kind: api.VMap, Id: m[at].value}
			} else if want == 0 {
				for i := range size {
					val.Num |= uint64(m[at+i].value) << (8 * i)
				}
			} else {
				val = api.Val{}
			}
			if trap != want || v != val {
				t.Fatalf("P8.3: %+v, %d, want %+v, %d", v, trap, val, want)
			}
		case 2:
			x := r.Uint64()
			want := 0
			if m.tagged(at, size) {
				want = api.TrapTag
			}
			is(t, mem.Store(p, size, num(x)), want, "P8.4")
			if want == 0 {
				b := make([]byte, size)
				for i := range b {
					b[i] = byte(x >> (8 * i))
				}
				m.put(at, b)
			}
		case 3:
			v := api.Val{Kind: api.VMap, Id: r.Intn(1000)}
			want := 0
			if m.tagged(at, size) {
				want = api.TrapTag
			} else if size != 8 || at%8 != 0 {
				want = api.TrapSpill
			}
			is(t, mem.Store(p, size, v), want, "P8.4")
			for i := at; want == 0 && i < at+8; i++ {
				m[i] = cell{kind: 2, value: v.Id}
			}
		case 4:
			b, trap := mem.Read(p, n)
			want := 0
			if n > 0 {
				want = m.readTrap(at, n)
			}
			is(t, trap, want, "P8.5: Read")
			for i := range b {
				if int(b[i]) != m[at+i].value {
					t.Fatalf("P8.5: byte %d", i)
				}
			}
		case 5:
			b := make([]byte, n)
			r.Read(b)
			want := 0
			if n > 0 && m.tagged(at, n) {
				want = api.TrapTag
			}
			is(t, mem.Can(p, n), want, "P8.5: Can")
			is(t, mem.Write(p, b), want, "P8.5: Write")
			if want == 0 {
				m.put(at, b)
			}
		case 6:
			tag := 1 + r.Intn(1000)
			want := 0
			if at%8 != 0 {
				want = api.TrapArg
			} else if m.tagged(at, 16) {
				want = api.TrapTag
			}
			is(t, mem.Mark(p, tag), want, "P8.6: Mark")
			for i := at; want == 0 && i < at+16; i++ {
				m[i] = cell{kind: 3, value: tag, first: i == at}
			}
		case 7:
			tag, trap := mem.Tag(p)
			want, value := api.TrapTag, 0
			if m[at].first {
				want, value = 0, m[at].value
			}
			if tag != value || trap != want {
				t.Fatalf("P8.6: Tag: %d, %d, want %d, %d", tag, trap, value, want)
			}
			is(t, mem.Clear(p), want, "P8.6: Clear")
			for i := at; want == 0 && i < at+16; i++ {
				m[i] = cell{}
			}
		}
		if t.Failed() {
			t.FailNow()
		}
	}
}
