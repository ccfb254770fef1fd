package alu_test

import (
	"math/big"
	"testing"

	"barbican/alu"
	"barbican/api"
)

// samples: numbers at the edges of 32 and 64 bits.
var samples = []uint64{0, 1, 2, 3, 5, 7, 31, 32, 33, 63, 64, 65, 255, 0x1234, 0x7FFFFFFF, 0x80000000, 0x80000001, 0xFFFFFFFF,
	0x100000000, 0x100000005, 0x1_8000_0000, 0x0123456789ABCDEF, 0x7FFFFFFFFFFFFFFF, 0x8000000000000000, 0x8000000000000001, 0xFFFFFFFFFFFFFFFE, 0xFFFFFFFFFFFFFFFF}

func number(n uint64) *big.Int { return new(big.Int).SetUint64(n) }

// signed: n of so many bits as a number with a sign.
func signed(n uint64, bits uint) *big.Int {
	v := number(n)
	if v.Bit(int(bits-1)) == 1 {
		v.Sub(v, new(big.Int).Lsh(big.NewInt(1), bits))
	}
	return v
}

// model: an operation reckoned exactly, and cut to bits.
func model(op int, bits uint, a, b uint64) uint64 {
	mod := new(big.Int).Lsh(big.NewInt(1), bits)
	x, y := new(big.Int).Mod(number(a), mod), new(big.Int).Mod(number(b), mod)
	by := uint(y.Uint64() % uint64(bits))
	r := new(big.Int)
	switch op {
	case api.Add:
		r.Add(x, y)
	case api.Sub:
		r.Sub(x, y)
	case api.Mul:
		r.Mul(x, y)
	case api.Div:
		if y.Sign() != 0 {
			r.Quo(x, y)
		}
	case api.Mod:
		r.Set(x)
		if y.Sign() != 0 {
			r.Rem(x, y)
		}
	case api.Or:
		r.Or(x, y)
	case api.And:
		r.And(x, y)
	case api.Xor:
		r.Xor(x, y)
	case api.Lsh:
		r.Lsh(x, by)
	case api.Rsh:
		r.Rsh(x, by)
	case api.Neg:
		r.Neg(x)
	case api.Mov:
		r.Set(y)
	case api.Arsh:
		r.Rsh(signed(x.Uint64(), bits), by)
	}
	return r.Mod(r, mod).Uint64()
}

// TestDo: P2.1.
func TestDo(t *testing.T) {
	for op := api.Add; op <= api.Arsh; op++ {
		for _, a := range samples {
			for _, b := range samples {
				for _, wide := range []bool{true, false} {
					bits := uint(32)
					if wide {
						bits = 64
					}
					got, ok := alu.Do(op, wide, a, b)
					if want := model(op, bits, a, b); got != want || !ok {
						t.Errorf("P2.1: Do(%d, %v, %x, %x) = %x, %v, want %x", op, wide, a, b, got, ok, want)
					}
				}
			}
		}
	}
	for _, op := range []int{-1, api.End, 14, 15, 16, 1 << 40, -1 << 63} {
		for _, wide := range []bool{true, false} {
			if n, ok := alu.Do(op, wide, 5, 6); n != 0 || ok {
				t.Errorf("P2.1: Do(%d): %d, %v", op, n, ok)
			}
		}
	}
}

// TestExamples: the chapter's examples.
func TestExamples(t *testing.T) {
	for _, c := range []struct {
		op   int
		wide bool
		a, b uint64
		want uint64
	}{
		{api.Div, true, 7, 0, 0},
		{api.Mod, true, 7, 0, 7},
		{api.Mod, false, 1<<32 + 5, 0, 5},
		{api.Arsh, false, 0x80000000, 31, 0xFFFFFFFF},
		{api.Lsh, true, 1, 65, 2},
		{api.Lsh, false, 1, 33, 2},
	} {
		if got, _ := alu.Do(c.op, c.wide, c.a, c.b); got != c.want {
			t.Errorf("P2.1: %+v: %x", c, got)
		}
	}
}

// TestSwap: P2.2, P2.4.
func TestSwap(t *testing.T) {
	for _, a := range samples {
		for _, to := range []int{16, 32, 64} {
			low := a
			if to < 64 {
				low &= 1<<to - 1
			}
			var turned uint64
			for i := 0; i < to; i += 8 {
				turned |= (low >> i & 255) << (to - 8 - i)
			}
			little, ok := alu.Swap(to, false, a)
			big, okBig := alu.Swap(to, true, a)
			turn, okTurn := alu.Turn(to, a)
			if little != low || big != turned || turn != turned || !ok || !okBig || !okTurn {
				t.Errorf("P2.2: %d bits of %x: %x, %x, %x", to, a, little, big, turn)
			}
			if twice, _ := alu.Swap(to, true, big); twice != low {
				t.Errorf("P2.4: %d bits of %x turned twice: %x", to, a, twice)
			}
		}
	}
	for _, to := range []int{-16, 0, 8, 15, 17, 24, 48, 63, 65, 128} {
		x, a := alu.Swap(to, false, 5)
		y, b := alu.Swap(to, true, 5)
		z, c := alu.Turn(to, 5)
		if x|y|z != 0 || a || b || c {
			t.Errorf("P2.2: to %d bits", to)
		}
	}
	if n, _ := alu.Swap(16, true, 0x1234); n != 0x3412 {
		t.Errorf("P2.2: %x", n)
	}
}

// TestCmp: P2.3, P2.4.
func TestCmp(t *testing.T) {
	contrary := map[int]int{api.Jeq: api.Jne, api.Jgt: api.Jle, api.Jge: api.Jlt, api.Jsgt: api.Jsle, api.Jsge: api.Jslt}
	for _, a := range samples {
		for _, b := range samples {
			for _, bits := range []uint{64, 32} {
				x, y := a, b
				if bits == 32 {
					x, y = a&0xFFFFFFFF, b&0xFFFFFFFF
				}
				u, s := number(x).Cmp(number(y)), signed(x, bits).Cmp(signed(y, bits))
				want := map[int]bool{
					api.Jeq: u == 0, api.Jne: u != 0, api.Jgt: u > 0, api.Jge: u >= 0, api.Jlt: u < 0, api.Jle: u <= 0,
					api.Jset: x&y != 0, api.Jsgt: s > 0, api.Jsge: s >= 0, api.Jslt: s < 0, api.Jsle: s <= 0,
				}
				for op := -2; op < 20; op++ {
					w, is := want[op]
					got, ok := alu.Cmp(op, bits == 64, a, b)
					if got != w || ok != is {
						t.Errorf("P2.3: Cmp(%d, %d bits, %x, %x) = %v, %v, want %v, %v", op, bits, a, b, got, ok, w, is)
					}
					if other, has := contrary[op]; has {
						if no, _ := alu.Cmp(other, bits == 64, a, b); no == got {
							t.Errorf("P2.4: %d and %d of %x, %x are alike", op, other, a, b)
						}
					}
				}
			}
		}
	}
}

// TestSign: P2.3.
func TestSign(t *testing.T) {
	for n, want := range map[int32]uint64{0: 0, 1: 1, -1: 1<<64 - 1, 2147483647: 2147483647, -2147483648: 0xFFFFFFFF80000000} {
		if got := alu.Sign(n); got != want {
			t.Errorf("P2.3: Sign(%d) = %x", n, got)
		}
	}
}

// TestLaws: P2.4.
func TestLaws(t *testing.T) {
	do := func(op int, wide bool, a, b uint64) uint64 {
		n, _ := alu.Do(op, wide, a, b)
		return n
	}
	for _, a := range samples {
		for _, b := range samples {
			for _, wide := range []bool{true, false} {
				if do(api.Add, wide, a, b) != do(api.Add, wide, b, a) || do(api.Mul, wide, a, b) != do(api.Mul, wide, b, a) {
					t.Errorf("P2.4: sums and products of %x, %x", a, b)
				}
				back := do(api.Add, wide, do(api.Mul, wide, do(api.Div, wide, a, b), b), do(api.Mod, wide, a, b))
				if back != do(api.Mov, wide, 0, a) {
					t.Errorf("P2.4: quotient and rest of %x, %x: %x", a, b, back)
				}
			}
			for op := api.Add; op <= api.Arsh; op++ {
				if do(op, false, a, b) != do(op, false, a|0xABC<<32, b|0xDEF<<40) {
					t.Errorf("P2.4: what isn't wide hangs on more than 32 bits: %d of %x, %x", op, a, b)
				}
			}
		}
	}
}
