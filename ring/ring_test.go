package ring_test

import (
	"fmt"
	"math/rand"
	"testing"

	"barbican/api"
	"barbican/region"
	"barbican/ring"
)

func made(t *testing.T, size int) (*ring.Ring, *region.Mem) {
	t.Helper()
	mem := region.New()
	r, e := ring.New(size, mem)
	if e != api.OK {
		t.Fatalf("P10.1: %d: %d", size, e)
	}
	return r, mem
}

func is(t *testing.T, got, want api.Errno, what string) {
	t.Helper()
	if got != want {
		t.Errorf("%s: %d, want %d", what, got, want)
	}
}

// TestNew: P10.1.
func TestNew(t *testing.T) {
	for size := -16; size < 4200; size++ {
		right := size >= 8 && size <= 4096 && size%8 == 0
		r, e := ring.New(size, region.New())
		if right != (e == api.OK) || right != (r != nil) || !right && e != api.ErrRingSize {
			t.Errorf("P10.1: %d: %d", size, e)
		}
		if right && (r.Used() != 0 || len(r.Pending()) != 0 || len(r.Read()) != 0) {
			t.Errorf("P10.1: %d isn't empty", size)
		}
	}
}

// TestReserve: P10.1, P10.2.
func TestReserve(t *testing.T) {
	r, mem := made(t, 32)
	for _, n := range []int{0, -1, 4097, 1 << 62, -1 << 63} {
		id, e := r.Reserve(n)
		if id != 0 || e != api.ErrRingSize {
			t.Errorf("P10.2: Reserve(%d): %d, %d", n, id, e)
		}
	}
	id, e := r.Reserve(4096)
	if id != 0 || e != api.ErrRingFull {
		t.Errorf("P10.2: Reserve(4096): %d, %d", id, e)
	}
	a, e := r.Reserve(8)
	b, f := r.Reserve(7)
	if e != api.OK || f != api.OK || r.Used() != 32 || fmt.Sprint(r.Pending()) != fmt.Sprint([]int{a, b}) {
		t.Errorf("P10.2: %d, %d, %d used, %v", e, f, r.Used(), r.Pending())
	}
	if got, ok := mem.Bytes(b); string(got) != string(make([]byte, 7)) || !ok || !mem.Live(b) {
		t.Errorf("P10.2: a record's bytes: %v", got)
	}
	if trap := mem.Store(api.Val{Kind: api.VMem, Id: a}, 8, api.Val{Kind: api.VNum, Num: 0x41}); trap != 0 {
		t.Errorf("P10.2: it may be written: %d", trap)
	}
	_, e = r.Reserve(1)
	is(t, e, api.ErrRingFull, "P10.2: full")
	is(t, r.Output([]byte{1}), api.ErrRingFull, "P10.2: Output")
	is(t, r.Output(nil), api.ErrRingSize, "P10.2: Output of nothing")
	is(t, r.Output(make([]byte, 4097)), api.ErrRingSize, "P10.2: Output of too much")
	is(t, r.Submit(99), api.ErrRingNone, "P10.2: Submit")
	is(t, r.Discard(0), api.ErrRingNone, "P10.2: Discard")
	is(t, r.Submit(b), api.OK, "P10.2: Submit")
	is(t, r.Submit(b), api.ErrRingNone, "P10.2: Submit again")
	is(t, r.Discard(b), api.ErrRingNone, "P10.2: Discard of what is submitted")
	if l := r.Read(); len(l) != 0 || mem.Live(b) || !mem.Live(a) || r.Used() != 32 {
		t.Errorf("P10.3: %v, %d used", l, r.Used())
	}
	is(t, r.Submit(a), api.OK, "P10.2: Submit")
	mem.Set(a, 0, []byte{0x55})
	l := r.Read()
	if len(l) != 2 || string(l[0]) != "A\x00\x00\x00\x00\x00\x00\x00" || len(l[1]) != 7 || r.Used() != 0 || len(r.Pending()) != 0 {
		t.Errorf("P10.4: %v, %d used", l, r.Used())
	}
	if l := r.Read(); len(l) != 0 {
		t.Errorf("P10.4: read twice: %v", l)
	}
}

// TestOutput: P10.2, P10.3.
func TestOutput(t *testing.T) {
	r, mem := made(t, 64)
	b := []byte("abc")
	is(t, r.Output(b), api.OK, "P10.2: Output")
	b[0] = 'x'
	id, _ := r.Reserve(1)
	if id != 2 || mem.Live(1) {
		t.Errorf("P10.2: Output reserves a record: the next one is %d", id)
	}
	is(t, r.Output([]byte("d")), api.OK, "P10.2: Output")
	is(t, r.Discard(id), api.OK, "P10.2: Discard")
	if mem.Live(id) || r.Used() != 48 {
		t.Errorf("P10.2: what is discarded is in it until it is read: %d used", r.Used())
	}
	l := r.Read()
	if fmt.Sprintf("%s", l) != "[abc d]" || r.Used() != 0 {
		t.Errorf("P10.3: %s, %d used", l, r.Used())
	}
	other, mem2 := made(t, 64)
	mem2.Frame()
	if id, _ := other.Reserve(8); id != 2 {
		t.Errorf("P10.2: the region's number is the memory's: %d", id)
	}
}

// TestRow: P10.4, against a row.
func TestRow(t *testing.T) {
	rnd := rand.New(rand.NewSource(1))
	type entry struct {
		id, takes, state int
		b                string
	}
	r, mem := made(t, 256)
	var row []entry
	for range 50000 {
		used := 0
		var pending []int
		for _, x := range row {
			used += x.takes
			if x.state == 0 {
				pending = append(pending, x.id)
			}
		}
		if r.Used() != used || fmt.Sprint(r.Pending()) != fmt.Sprint(pending) {
			t.Fatalf("P10.2: %d used, %v, want %d, %v", r.Used(), r.Pending(), used, pending)
		}
		switch rnd.Intn(5) {
		case 0, 1:
			n := 1 + rnd.Intn(50)
			takes := 8 + (n+7)/8*8
			want := api.OK
			if used+takes > 256 {
				want = api.ErrRingFull
			}
			id, e := r.Reserve(n)
			is(t, e, want, "P10.2: Reserve")
			if e == api.OK {
				b := make([]byte, n)
				rnd.Read(b)
				mem.Set(id, 0, b)
				row = append(row, entry{id: id, takes: takes, b: string(b)})
			}
		case 2, 3:
			if len(pending) == 0 {
				continue
			}
			id, state := pending[rnd.Intn(len(pending))], 1+rnd.Intn(2)
			for i := range row {
				if row[i].id == id {
					row[i].state = state
				}
			}
			if state == 1 {
				is(t, r.Submit(id), api.OK, "P10.2: Submit")
			} else {
				is(t, r.Discard(id), api.OK, "P10.2: Discard")
			}
		case 4:
			var want []string
			for len(row) > 0 && row[0].state != 0 {
				if row[0].state == 1 {
					want = append(want, row[0].b)
				}
				row = row[1:]
			}
			got := r.Read()
			if fmt.Sprintf("%q", got) != fmt.Sprintf("%q", want) {
				t.Fatalf("P10.3: %q, want %q", got, want)
			}
		}
	}
}
