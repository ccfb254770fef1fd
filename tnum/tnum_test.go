package tnum_test

import (
	"math/bits"
	"math/rand"
	"testing"

	"barbican/api"
	"barbican/tnum"
)

// few: tnums with few unknown bits at all kinds of places, so that their numbers can be told one by one.
func few(r *rand.Rand) api.Tnum {
	var mask uint64
	for range r.Intn(5) {
		at := r.Intn(64)
		switch r.Intn(3) {
		case 0:
			at = r.Intn(6)
		case 1:
			at = 29 + r.Intn(6)
		}
		mask |= 1 << at
	}
	value := r.Uint64()
	switch r.Intn(4) {
	case 0:
		value = uint64(r.Intn(16))
	case 1:
		value = -uint64(r.Intn(16))
	case 2:
		value = 0
	}
	return api.Tnum{Value: value &^ mask, Mask: mask}
}

// all: each of t's numbers.
func all(t api.Tnum) []uint64 {
	var l []uint64
	for sub := t.Mask; ; sub = (sub - 1) & t.Mask {
		l = append(l, t.Value|sub)
		if sub == 0 {
			return l
		}
	}
}

// tightest: by the words.
func tightest(l []uint64) api.Tnum {
	var unlike uint64
	for _, n := range l {
		unlike |= n ^ l[0]
	}
	return api.Tnum{Value: l[0] &^ unlike, Mask: unlike}
}

var samples = []uint64{0, 1, 2, 3, 4, 6, 7, 8, 15, 16, 63, 64, 255, 0x7FFFFFFF, 0x80000000, 0xFFFFFFFF, 0x100000000, 1 << 62, 1<<63 - 1, 1 << 63, 1<<64 - 2, 1<<64 - 1}

var wrong = api.Tnum{Value: 3, Mask: 2}

// TestIs: Is, Has, Const, Unknown, Least, Most.
func TestIs(t *testing.T) {
	if tnum.Is(wrong) || !tnum.Is(api.Tnum{}) || !tnum.Is(api.Tnum{Value: 4, Mask: 3}) || !tnum.Is(tnum.Unknown()) {
		t.Error("Is")
	}
	for _, n := range samples {
		if tnum.Has(wrong, n) || !tnum.Has(tnum.Unknown(), n) || !tnum.Has(tnum.Const(n), n) || tnum.Has(tnum.Const(n), n+1) {
			t.Errorf("Has %x", n)
		}
		if c := tnum.Const(n); c != (api.Tnum{Value: n}) || tnum.Least(c) != n || tnum.Most(c) != n {
			t.Errorf("P6.1: Const(%x)", n)
		}
	}
	if tnum.Unknown() != (api.Tnum{Mask: 1<<64 - 1}) {
		t.Error("P6.1: Unknown")
	}
	x := api.Tnum{Value: 0x50, Mask: 0x0A}
	if tnum.Least(x) != 0x50 || tnum.Most(x) != 0x5A || tnum.Least(wrong) != 0 || tnum.Most(wrong) != 1<<64-1 {
		t.Error("P6.1: Least, Most")
	}
	for n := range uint64(256) {
		if tnum.Has(x, n) != (n&^0x0A == 0x50) {
			t.Errorf("Has %x", n)
		}
	}
}

// TestRange: P6.1.
func TestRange(t *testing.T) {
	for _, a := range samples {
		for _, b := range samples {
			got := tnum.Range(a, b)
			want := tnum.Unknown()
			if a <= b {
				mask := uint64(1)<<bits.Len64(a^b) - 1
				want = api.Tnum{Value: a &^ mask, Mask: mask}
			}
			if got != want {
				t.Errorf("P6.1: Range(%x, %x) = %+v, want %+v", a, b, got, want)
			}
		}
	}
	if tnum.Range(4, 7) != (api.Tnum{Value: 4, Mask: 3}) || tnum.Range(0, 1<<64-1) != tnum.Unknown() || tnum.Range(5, 5) != tnum.Const(5) {
		t.Error("P6.1: Range")
	}
}

// TestSets: In, Meet, Join.
func TestSets(t *testing.T) {
	r := rand.New(rand.NewSource(1))
	for range 20000 {
		a, b := few(r), few(r)
		if r.Intn(2) == 0 {
			b = api.Tnum{Value: a.Value &^ b.Mask, Mask: b.Mask}
		}
		l, m := all(a), all(b)
		in := true
		var both []uint64
		for _, n := range l {
			in = in && tnum.Has(b, n)
			if tnum.Has(b, n) {
				both = append(both, n)
			}
		}
		if tnum.In(a, b) != in {
			t.Fatalf("P6.1: In(%+v, %+v): %v", a, b, !in)
		}
		got, ok := tnum.Meet(a, b)
		if ok != (len(both) > 0) || ok && (got != tightest(both) || len(all(got)) != len(both)) || !ok && got != (api.Tnum{}) {
			t.Fatalf("P6.2: Meet(%+v, %+v): %+v, %v", a, b, got, ok)
		}
		if got := tnum.Join(a, b); got != tightest(append(l, m...)) {
			t.Fatalf("P6.2: Join(%+v, %+v): %+v", a, b, got)
		}
	}
	if tnum.Join(tnum.Const(4), tnum.Const(6)) != (api.Tnum{Value: 4, Mask: 2}) {
		t.Error("P6.2: Join")
	}
	u := tnum.Unknown()
	if m, ok := tnum.Meet(wrong, tnum.Const(3)); m != tnum.Const(3) || !ok || tnum.Join(wrong, tnum.Const(3)) != u || !tnum.In(wrong, u) || !tnum.In(u, wrong) || tnum.In(wrong, tnum.Const(3)) {
		t.Error("P6.1, P6.2: what isn't a tnum")
	}
}

type both func(a, b api.Tnum) api.Tnum

// TestPairs: P6.3, P6.4, P6.5: each operation against all of its numbers.
func TestPairs(t *testing.T) {
	ops := map[string]struct {
		do   both
		of   func(a, b uint64) uint64
		best bool
	}{
		"Add": {tnum.Add, func(a, b uint64) uint64 { return a + b }, true},
		"Sub": {tnum.Sub, func(a, b uint64) uint64 { return a - b }, true},
		"And": {tnum.And, func(a, b uint64) uint64 { return a & b }, true},
		"Or":  {tnum.Or, func(a, b uint64) uint64 { return a | b }, true},
		"Xor": {tnum.Xor, func(a, b uint64) uint64 { return a ^ b }, true},
		"Mul": {tnum.Mul, func(a, b uint64) uint64 { return a * b }, false},
	}
	r := rand.New(rand.NewSource(2))
	for name, op := range ops {
		for range 8000 {
			a, b := few(r), few(r)
			got := op.do(a, b)
			var l []uint64
			for _, x := range all(a) {
				for _, y := range all(b) {
					l = append(l, op.of(x, y))
				}
			}
			want := tightest(l)
			if op.best && got != want || !tnum.Is(got) || !tnum.In(want, got) {
				t.Fatalf("P6.3: %s(%+v, %+v) = %+v, tightest %+v", name, a, b, got, want)
			}
			if name == "Mul" && len(l) == 1 && got != want {
				t.Fatalf("P6.4: %+v, %+v: %+v", a, b, got)
			}
			if noughts := min(64, low(a)+low(b)); name == "Mul" && low(got) < noughts {
				t.Fatalf("P6.4: %+v, %+v: %+v has not %d noughts at its end", a, b, got, noughts)
			}
			wider := api.Tnum{Value: a.Value &^ 0x8000000100000012, Mask: a.Mask | 0x8000000100000012}
			if op.best && !tnum.In(got, op.do(wider, b)) || op.best && !tnum.In(op.do(b, a), op.do(b, wider)) {
				t.Fatalf("P6.5: %s(%+v, %+v)", name, a, b)
			}
		}
		if op.do(wrong, tnum.Const(5)) != op.do(tnum.Unknown(), tnum.Const(5)) || op.do(tnum.Const(5), wrong) != op.do(tnum.Const(5), tnum.Unknown()) {
			t.Errorf("%s of what isn't a tnum", name)
		}
	}
}

// low: how many noughts a tnum has at its low end.
func low(t api.Tnum) int { return bits.TrailingZeros64(t.Value | t.Mask) }

// TestMulNoughts: P6.4 with noughts.
func TestMulNoughts(t *testing.T) {
	u := tnum.Unknown()
	for i := range 65 {
		for j := range 65 {
			a, b := api.Tnum{Mask: u.Mask << i}, api.Tnum{Mask: u.Mask << j}
			if got := tnum.Mul(a, b); low(got) < min(64, i+j) {
				t.Fatalf("P6.4: %d and %d noughts: %+v", i, j, got)
			}
		}
	}
	if tnum.Mul(tnum.Const(0), u) != tnum.Const(0) || tnum.Mul(u, tnum.Const(0)) != tnum.Const(0) || tnum.Mul(tnum.Const(1<<63), tnum.Const(3)) != tnum.Const(1<<63) {
		t.Error("P6.4")
	}
}

// TestShifts: P6.3.
func TestShifts(t *testing.T) {
	r := rand.New(rand.NewSource(3))
	for range 20000 {
		a, n := few(r), r.Intn(300)-150
		by, by32 := uint(n)%64, uint(n)%32
		var lsh, rsh, wide, narrow, lowest []uint64
		for _, x := range all(a) {
			lsh = append(lsh, x<<by)
			rsh = append(rsh, x>>by)
			wide = append(wide, uint64(int64(x)>>by))
			narrow = append(narrow, uint64(uint32(int32(uint32(x))>>by32)))
			lowest = append(lowest, x&0xFFFFFFFF)
		}
		for name, c := range map[string][2]api.Tnum{
			"Lsh": {tnum.Lsh(a, n), tightest(lsh)}, "Rsh": {tnum.Rsh(a, n), tightest(rsh)}, "Low": {tnum.Low(a), tightest(lowest)},
			"Arsh": {tnum.Arsh(a, n, true), tightest(wide)}, "Arsh of 32": {tnum.Arsh(a, n, false), tightest(narrow)},
		} {
			if c[0] != c[1] {
				t.Fatalf("P6.3: %s(%+v, %d) = %+v, want %+v", name, a, n, c[0], c[1])
			}
		}
	}
	u := tnum.Unknown()
	if tnum.Lsh(wrong, 4) != tnum.Lsh(u, 4) || tnum.Rsh(wrong, 4) != tnum.Rsh(u, 4) || tnum.Arsh(wrong, 4, true) != u || tnum.Arsh(wrong, 4, false) != tnum.Low(u) || tnum.Low(wrong) != tnum.Low(u) {
		t.Error("P6.3: shifts of what isn't a tnum")
	}
	if tnum.Arsh(u, 31, false) != (api.Tnum{Mask: 0xFFFFFFFF}) || tnum.Rsh(u, 60) != (api.Tnum{Mask: 15}) {
		t.Error("P6.3: shifts of Unknown")
	}
}

// TestExamples: the chapter's.
func TestExamples(t *testing.T) {
	for k, c := range [][2]api.Tnum{
		{tnum.Add(api.Tnum{Mask: 1}, tnum.Const(1)), {Mask: 3}},
		{tnum.And(tnum.Unknown(), tnum.Const(7)), {Mask: 7}},
		{tnum.Sub(tnum.Const(0), api.Tnum{Mask: 1}), tnum.Unknown()},
	} {
		if c[0] != c[1] {
			t.Errorf("example %d: %+v, want %+v", k, c[0], c[1])
		}
	}
}
