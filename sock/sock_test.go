package sock_test

import (
	"fmt"
	"math/rand"
	"testing"

	"barbican/api"
	"barbican/sock"
)

func socket(from byte) []byte {
	b := make([]byte, api.SockSize)
	for i := range b {
		b[i] = from + byte(i)
	}
	return b
}

// TestTable: P11.1.
func TestTable(t *testing.T) {
	full := make([][]byte, 17)
	for i := range full {
		full[i] = socket(byte(i))
	}
	for _, c := range []struct {
		l    [][]byte
		want api.Errno
	}{
		{nil, api.OK}, {full[:16], api.OK}, {full, api.ErrSockMany}, {[][]byte{socket(0), make([]byte, 19)}, api.ErrSockSize}, {[][]byte{make([]byte, 21)}, api.ErrSockSize},
		{[][]byte{nil}, api.ErrSockSize}, {make([][]byte, 17), api.ErrSockMany},
	} {
		s, e := sock.NewTable(c.l)
		if e != c.want || (s != nil) != (e == api.OK) {
			t.Errorf("P11.1: %d sockets: %d, want %d", len(c.l), e, c.want)
		}
		if e == api.OK && (s.Len() != len(c.l) || len(s.Counts()) != len(c.l)) {
			t.Errorf("P11.1: Len %d", s.Len())
		}
	}
	s, _ := sock.NewTable(full[:2])
	want := func(e, f api.Errno, counts string) {
		t.Helper()
		if e != f || fmt.Sprint(s.Counts()) != counts {
			t.Errorf("P11.1: %d, %v, want %d, %s", e, s.Counts(), f, counts)
		}
	}
	want(0, 0, "[1 1]")
	want(s.Drop(0), api.ErrSockNone, "[1 1]")
	want(s.Take(1), api.OK, "[1 2]")
	want(s.Take(1), api.OK, "[1 3]")
	want(s.Drop(1), api.OK, "[1 2]")
	want(s.Drop(1), api.OK, "[1 1]")
	want(s.Drop(1), api.ErrSockNone, "[1 1]")
	for _, i := range []int{-1, 2, 1 << 62, -1 << 63} {
		want(s.Take(i), api.ErrSockNone, "[1 1]")
		want(s.Drop(i), api.ErrSockNone, "[1 1]")
	}
	s.Counts()[0] = 9
	want(0, 0, "[1 1]")
}

// TestField: P11.1.
func TestField(t *testing.T) {
	b := socket(10)
	s, _ := sock.NewTable([][]byte{b, socket(100)})
	b[0] = 99
	sizes := map[int]int{0: 4, 4: 4, 8: 4, 12: 2, 14: 2, 16: 4}
	for off := -4; off < 28; off++ {
		for size := -1; size < 18; size++ {
			n, trap := s.Field(0, off, size)
			if size < 1 || size > sizes[off] || size == 3 {
				if n != 0 || trap != api.TrapType {
					t.Errorf("P11.1: %d bytes at %d: %x, %d", size, off, n, trap)
				}
				continue
			}
			var want uint64
			for i := range size {
				want |= uint64(10+off+i) << (8 * i)
			}
			if n != want || trap != 0 {
				t.Errorf("P11.1: %d bytes at %d: %x, %d, want %x", size, off, n, trap, want)
			}
		}
	}
	if n, _ := s.Field(1, 14, 2); n != 115<<8|114 {
		t.Errorf("P11.1: %x", n)
	}
	for _, i := range []int{-1, 2, 1 << 62} {
		if n, trap := s.Field(i, 99, 3); n != 0 || trap != api.TrapArg {
			t.Errorf("P11.1: socket %d: %x, %d", i, n, trap)
		}
	}
}

// TestLedger: P11.2.
func TestLedger(t *testing.T) {
	l := sock.NewLedger()
	if len(l.Held()) != 0 || len(l.Events()) != 0 {
		t.Error("P11.2: a new ledger")
	}
	a, ok := l.Acquire(9, 70)
	b, also := l.Acquire(13, -3)
	if a != 1 || b != 2 || !ok || !also {
		t.Errorf("P11.2: %d, %d", a, b)
	}
	for _, id := range []int{0, -1, 3, 1 << 62, -1 << 63} {
		h, w, ok := l.What(id)
		x, e := l.Release(id, 5)
		if h != 0 || w != 0 || ok || x != 0 || e != api.ErrSockNone {
			t.Errorf("P11.2: reference %d", id)
		}
	}
	if h, w, ok := l.What(2); h != 13 || w != -3 || !ok {
		t.Errorf("P11.2: %d, %d, %v", h, w, ok)
	}
	if w, e := l.Release(1, 10); w != 70 || e != api.OK {
		t.Errorf("P11.2: %d, %d", w, e)
	}
	if w, e := l.Release(1, 10); w != 0 || e != api.ErrSockNone {
		t.Errorf("P11.2: %d, %d", w, e)
	}
	if h, w, ok := l.What(1); h != 0 || w != 0 || ok {
		t.Error("P11.2: What of one that is released")
	}
	if fmt.Sprint(l.Held()) != "[2]" {
		t.Errorf("P11.2: %v", l.Held())
	}
	c, _ := l.Acquire(9, 1)
	if c != 3 || fmt.Sprint(l.Held()) != "[2 3]" {
		t.Errorf("P11.2: %d, %v", c, l.Held())
	}
	events := l.Events()
	if fmt.Sprint(events) != "[{false 1 9} {false 2 13} {true 1 10} {false 3 9}]" {
		t.Errorf("P11.2: %v", events)
	}
	events[0].Id = 88
	events = append(events, api.Event{})
	if l.Events()[0].Id != 1 || len(l.Events()) != 4 {
		t.Error("P11.2: Events shares memory")
	}
}

// TestMany: P11.2 at the limit.
func TestMany(t *testing.T) {
	l := sock.NewLedger()
	for i := range api.MaxRefs {
		if id, ok := l.Acquire(1, i); id != i+1 || !ok {
			t.Fatalf("P11.2: %d, %v", id, ok)
		}
	}
	if id, ok := l.Acquire(1, 0); id != 0 || ok || len(l.Held()) != 256 || len(l.Events()) != 256 {
		t.Errorf("P11.2: one more: %d, %v", id, ok)
	}
	l.Release(100, 2)
	if id, ok := l.Acquire(1, 0); id != 257 || !ok {
		t.Errorf("P11.2: behind a release: %d, %v", id, ok)
	}
}

// TestRow: P11.3.
func TestRow(t *testing.T) {
	r := rand.New(rand.NewSource(1))
	l := sock.NewLedger()
	held := map[int]bool{}
	for range 20000 {
		if r.Intn(2) == 0 {
			if id, ok := l.Acquire(r.Intn(5), 0); ok {
				held[id] = true
			}
		} else {
			id := 1 + r.Intn(len(l.Events())+2)
			if _, e := l.Release(id, 0); (e == api.OK) != held[id] {
				t.Fatalf("P11.2: Release(%d): %d", id, e)
			}
			delete(held, id)
		}
	}
	acquired, released := map[int]int{}, map[int]int{}
	for _, e := range l.Events() {
		if e.Release {
			released[e.Id]++
		} else {
			acquired[e.Id]++
		}
		if acquired[e.Id] != 1 || released[e.Id] > 1 {
			t.Fatalf("P11.3: %+v", e)
		}
	}
	before := 0
	for _, id := range l.Held() {
		if released[id] != 0 || !held[id] || id <= before {
			t.Fatalf("P11.3: %d is held", id)
		}
		before = id
		delete(held, id)
	}
	if len(held) != 0 {
		t.Fatalf("P11.3: %v", held)
	}
}
