package scalar_test

import (
	"math"
	"math/big"
	"math/bits"
	"math/rand"
	"testing"

	"barbican/alu"
	"barbican/api"
	"barbican/scalar"
	"barbican/tnum"
)

var samples = []uint64{0, 1, 2, 3, 5, 7, 8, 31, 32, 63, 64, 255, 0x7FFFFFFF, 0x80000000, 0xFFFFFFFF, 0x100000000, 0x1FFFFFFFF, 1 << 62, 1<<63 - 1, 1 << 63, 1<<63 + 1, 1<<64 - 2, 1<<64 - 1}

// few: a scalar some of whose bits are unknown, so that its numbers can be told one by one.
func few(r *rand.Rand) api.Scalar {
	for {
		var mask uint64
		for range r.Intn(6) {
			at := r.Intn(64)
			switch r.Intn(4) {
			case 0, 1:
				at = r.Intn(6)
			case 2:
				at = 29 + r.Intn(5)
			}
			mask |= 1 << at
		}
		if r.Intn(4) == 0 {
			mask |= 1 << 63
		}
		value := r.Uint64()
		switch r.Intn(4) {
		case 0:
			value = uint64(r.Intn(70))
		case 1:
			value = -uint64(r.Intn(70))
		case 2:
			value = samples[r.Intn(len(samples))]
		}
		s := scalar.Unknown()
		s.T = api.Tnum{Value: value &^ mask, Mask: mask}
		l := all(s)
		if r.Intn(2) == 0 {
			s.Umin, s.Umax = l[r.Intn(len(l))], l[r.Intn(len(l))]
			s.Umin -= uint64(r.Intn(2))
		}
		if r.Intn(2) == 0 {
			s.Smin, s.Smax = int64(l[r.Intn(len(l))]), int64(l[r.Intn(len(l))])
		}
		if s, ok := scalar.Sync(s); ok && len(all(s)) > 0 {
			return s
		}
	}
}

// all: each of s's numbers.
func all(s api.Scalar) []uint64 {
	var l []uint64
	for sub := s.T.Mask; ; sub = (sub - 1) & s.T.Mask {
		if n := s.T.Value | sub; scalar.Has(s, n) {
			l = append(l, n)
		}
		if sub == 0 {
			return l
		}
	}
}

var wrong = api.Scalar{T: api.Tnum{Value: 1, Mask: 1}, Umin: 5, Umax: 4}

// TestIs: P7.1.
func TestIs(t *testing.T) {
	u := scalar.Unknown()
	if u != (api.Scalar{T: tnum.Unknown(), Umax: math.MaxUint64, Smin: math.MinInt64, Smax: math.MaxInt64}) || !scalar.Is(u) {
		t.Errorf("P7.1: Unknown: %+v", u)
	}
	for _, n := range samples {
		c := scalar.Const(n)
		if c != (api.Scalar{T: tnum.Const(n), Umin: n, Umax: n, Smin: int64(n), Smax: int64(n)}) || !scalar.Is(c) || !scalar.Has(c, n) || scalar.Has(c, n+1) || !scalar.Has(u, n) || scalar.Has(wrong, n) {
			t.Errorf("P7.1: Const(%x): %+v", n, c)
		}
		for _, m := range samples {
			b := scalar.Between(n, m)
			if n > m {
				if b != u {
					t.Errorf("P7.1: Between(%x, %x): %+v", n, m, b)
				}
				continue
			}
			if b.Umin != n || b.Umax != m || b.T != tnum.Range(n, m) || !scalar.Is(b) {
				t.Errorf("P7.1: Between(%x, %x): %+v", n, m, b)
			}
			for _, x := range samples {
				if scalar.Has(b, x) != (x >= n && x <= m) {
					t.Errorf("P7.1: Between(%x, %x) and %x", n, m, x)
				}
			}
			if n>>63 == m>>63 && (b.Smin != int64(n) || b.Smax != int64(m)) {
				t.Errorf("P7.1: Between(%x, %x): %+v", n, m, b)
			}
		}
	}
	loose := u
	loose.Umax = 5
	if scalar.Is(loose) || scalar.Is(wrong) || scalar.Is(api.Scalar{T: tnum.Const(1)}) || !scalar.Is(api.Scalar{}) {
		t.Error("P7.1: Is")
	}
}

// slow: Sync by the words, in another order.
func slow(s api.Scalar) (api.Scalar, bool) {
	for {
		before := s
		if s.Umin > s.Umax || s.Smin > s.Smax || !tnum.Is(s.T) {
			return api.Scalar{}, false
		}
		if (s.Smin < 0) == (s.Smax < 0) {
			s.Umin, s.Umax = max(s.Umin, uint64(s.Smin)), min(s.Umax, uint64(s.Smax))
		}
		if s.Umin>>63 == s.Umax>>63 {
			s.Smin, s.Smax = max(s.Smin, int64(s.Umin)), min(s.Smax, int64(s.Umax))
		}
		if s.Umin > s.Umax || s.Smin > s.Smax {
			return api.Scalar{}, false
		}
		m, ok := tnum.Meet(s.T, tnum.Range(s.Umin, s.Umax))
		if !ok {
			return api.Scalar{}, false
		}
		s.T = m
		s.Umin, s.Umax = max(s.Umin, tnum.Least(m)), min(s.Umax, tnum.Most(m))
		if s == before {
			return s, true
		}
	}
}

// TestSync: P7.1.
func TestSync(t *testing.T) {
	r := rand.New(rand.NewSource(1))
	for range 50000 {
		f := few(r)
		s := api.Scalar{T: f.T, Umax: math.MaxUint64, Smin: math.MinInt64, Smax: math.MaxInt64}
		pick := func() uint64 {
			switch r.Intn(3) {
			case 0:
				return samples[r.Intn(len(samples))]
			case 1:
				l := all(f)
				return l[r.Intn(len(l))] + uint64(r.Intn(3)) - 1
			}
			return r.Uint64()
		}
		if r.Intn(3) > 0 {
			s.Umin, s.Umax = pick(), pick()
		}
		if r.Intn(3) > 0 {
			s.Smin, s.Smax = int64(pick()), int64(pick())
		}
		if r.Intn(20) == 0 {
			s.T.Value |= s.T.Mask & -s.T.Mask
		}
		got, ok := scalar.Sync(s)
		want, is := slow(s)
		if got != want || ok != is {
			t.Fatalf("P7.1: Sync(%+v) = %+v, %v, want %+v, %v", s, got, ok, want, is)
		}
		if scalar.Is(s) != (is && want == s) {
			t.Fatalf("P7.1: Is(%+v)", s)
		}
		if !tnum.Is(s.T) {
			continue
		}
		if len(all(s)) != len(all(got)) && ok || !ok && len(all(s)) > 0 {
			t.Fatalf("P7.1: Sync(%+v) = %+v loses a number", s, got)
		}
	}
}

// TestSets: P7.2.
func TestSets(t *testing.T) {
	r := rand.New(rand.NewSource(2))
	for range 20000 {
		a, b := few(r), few(r)
		if r.Intn(2) == 0 {
			b = scalar.Join(b, a)
		}
		in := tnum.In(a.T, b.T) && a.Umin >= b.Umin && a.Umax <= b.Umax && a.Smin >= b.Smin && a.Smax <= b.Smax
		if scalar.In(a, b) != in {
			t.Fatalf("P7.2: In(%+v, %+v)", a, b)
		}
		j := scalar.Join(a, b)
		whole := api.Scalar{T: tnum.Join(a.T, b.T), Umin: min(a.Umin, b.Umin), Umax: max(a.Umax, b.Umax), Smin: min(a.Smin, b.Smin), Smax: max(a.Smax, b.Smax)}
		if want, _ := scalar.Sync(whole); j != want || !scalar.In(a, j) || !scalar.In(b, j) {
			t.Fatalf("P7.2: Join(%+v, %+v): %+v", a, b, j)
		}
		m, ok := scalar.Meet(a, b)
		part := api.Scalar{Umin: max(a.Umin, b.Umin), Umax: min(a.Umax, b.Umax), Smin: max(a.Smin, b.Smin), Smax: min(a.Smax, b.Smax)}
		var is bool
		part.T, is = tnum.Meet(a.T, b.T)
		want := api.Scalar{}
		if is {
			want, is = scalar.Sync(part)
		}
		if m != want || ok != is {
			t.Fatalf("P7.2: Meet(%+v, %+v): %+v, %v", a, b, m, ok)
		}
		for _, n := range all(a) {
			if scalar.Has(b, n) && !scalar.Has(m, n) {
				t.Fatalf("P7.2: Meet(%+v, %+v) loses %x", a, b, n)
			}
		}
	}
	u, five := scalar.Unknown(), scalar.Const(5)
	if m, ok := scalar.Meet(wrong, five); m != five || !ok || scalar.Join(wrong, five) != u || !scalar.In(wrong, u) || !scalar.In(u, wrong) || scalar.In(wrong, five) {
		t.Error("P7.2: what isn't a scalar")
	}
}

func big64(n uint64) *big.Int { return new(big.Int).SetUint64(n) }

// TestDo: P7.3: no number is lost, and what is named is told as tight.
func TestDo(t *testing.T) {
	r := rand.New(rand.NewSource(3))
	for round := range 60000 {
		op, wide := round%(api.Arsh+1), r.Intn(2) == 0
		a, b := few(r), few(r)
		switch r.Intn(4) {
		case 0:
			b = scalar.Const(samples[r.Intn(len(samples))])
		case 1:
			b = scalar.Between(uint64(r.Intn(20)), uint64(20+r.Intn(60)))
		}
		got := scalar.Do(op, wide, a, b)
		if !scalar.Is(got) {
			t.Fatalf("P7.3: Do(%d, %v, %+v, %+v) = %+v is none", op, wide, a, b, got)
		}
		for _, x := range all(a) {
			for _, y := range all(b) {
				if n, _ := alu.Do(op, wide, x, y); !scalar.Has(got, n) {
					t.Fatalf("P7.5: Do(%d, %v, %+v, %+v) = %+v loses %x of %x and %x", op, wide, a, b, got, n, x, y)
				}
			}
		}
		checkTight(t, op, wide, a, b, got)
	}
	u := scalar.Unknown()
	for _, op := range []int{-1, api.End, 14, 99} {
		if scalar.Do(op, true, scalar.Const(1), scalar.Const(2)) != u || scalar.Do(op, false, u, u) != u {
			t.Errorf("P7.3: Do(%d)", op)
		}
	}
	for op := range api.Arsh + 1 {
		if scalar.Do(op, true, wrong, scalar.Const(3)) != scalar.Do(op, true, u, scalar.Const(3)) || scalar.Do(op, false, scalar.Const(3), wrong) != scalar.Do(op, false, scalar.Const(3), u) {
			t.Errorf("P7.3: Do(%d) of what isn't a scalar", op)
		}
	}
}

// checkTight: what P7.3 names.
func checkTight(t *testing.T, op int, wide bool, a, b, got api.Scalar) {
	t.Helper()
	isA, isB := a.T.Mask == 0, b.T.Mask == 0
	if isA && isB {
		n, _ := alu.Do(op, wide, a.Umin, b.Umin)
		if got != scalar.Const(n) {
			t.Fatalf("P7.3: Do(%d, %v) of constants %x, %x: %+v", op, wide, a.Umin, b.Umin, got)
		}
	}
	wrongly := false
	most := a.Umax
	switch {
	case op == api.Mov && wide:
		wrongly = got != b
	case op == api.And:
		wrongly = got.Umax > min(a.Umax, b.Umax)
	case op == api.Mod && wide && isB && b.Umin > 0:
		wrongly = got.Umax >= b.Umin
	case op == api.Rsh && wide && isB && b.Umin < 64:
		wrongly = got.Umax > a.Umax>>b.Umin
	case op == api.Lsh && wide && isB && b.Umin < 64 && bits.LeadingZeros64(most) >= int(b.Umin):
		wrongly = got.Umax > a.Umax<<b.Umin
	case op == api.Mul && wide && isB:
		if over, most := bits.Mul64(a.Umax, b.Umin); over == 0 {
			wrongly = got.Umax > most
		}
	case wide && (op == api.Add || op == api.Sub):
		wrongly = !tightSums(op, a, b, got)
	}
	if wrongly {
		t.Fatalf("P7.3: Do(%d, %v, %+v, %+v) = %+v", op, wide, a, b, got)
	}
}

// tightSums: the ends of sums and differences, where no number goes beyond.
func tightSums(op int, a, b, got api.Scalar) bool {
	of := func(x, y *big.Int) *big.Int {
		if op == api.Add {
			return new(big.Int).Add(x, y)
		}
		return new(big.Int).Sub(x, y)
	}
	signed, unsigned := true, true
	for _, x := range all(a) {
		for _, y := range all(b) {
			n := of(big64(x), big64(y))
			unsigned = unsigned && n.Sign() >= 0 && n.IsUint64()
			signed = signed && of(big.NewInt(int64(x)), big.NewInt(int64(y))).IsInt64()
		}
	}
	least, most, smin, smax := b.Umin, b.Umax, b.Smin, b.Smax
	if op == api.Sub {
		least, most, smin, smax = most, least, smax, smin
	}
	if unsigned && (big64(got.Umin).Cmp(of(big64(a.Umin), big64(least))) < 0 || big64(got.Umax).Cmp(of(big64(a.Umax), big64(most))) > 0) {
		return false
	}
	return !signed || big.NewInt(got.Smin).Cmp(of(big.NewInt(a.Smin), big.NewInt(smin))) >= 0 && big.NewInt(got.Smax).Cmp(of(big.NewInt(a.Smax), big.NewInt(smax))) <= 0
}

// TestSumBeyond: P7.3: an end that no number has goes beyond 2^64, but no number does.
func TestSumBeyond(t *testing.T) {
	s := scalar.Unknown()
	s.T = api.Tnum{Mask: 0xC000000000000001}
	s.Umax = 1<<63 + 5
	a, ok := scalar.Sync(s)
	if !ok || a.Umax != 1<<63+5 {
		t.Fatalf("%+v", a)
	}
	got := scalar.Do(api.Add, true, a, scalar.Const(1<<63-4))
	if got.Umin < 1<<63-4 {
		t.Errorf("P7.3: %+v", got)
	}
}

// TestExamples: the chapter's.
func TestExamples(t *testing.T) {
	u := scalar.Unknown()
	if s := scalar.Do(api.Add, true, scalar.Between(0, 7), scalar.Const(8)); s.Umin != 8 || s.Umax != 15 || s.Smin != 8 || s.Smax != 15 {
		t.Errorf("%+v", s)
	}
	if s := scalar.Do(api.And, true, u, scalar.Const(63)); s.Umin != 0 || s.Umax != 63 || s.T != (api.Tnum{Mask: 63}) {
		t.Errorf("%+v", s)
	}
	if a, b, ok := scalar.Branch(api.Jgt, true, false, u, scalar.Const(9)); a.Umin != 0 || a.Umax != 9 || a.Smin != 0 || a.Smax != 9 || b != scalar.Const(9) || !ok {
		t.Errorf("%+v", a)
	}
	if s := scalar.Do(api.Mov, false, u, scalar.Const(1<<40+3)); s != scalar.Const(3) {
		t.Errorf("%+v", s)
	}
	if s := scalar.Do(api.Mov, false, u, scalar.Between(1<<40+3, 1<<40+9)); s.Umin != 3 || s.Umax != 9 {
		t.Errorf("%+v", s)
	}
}

// TestSwap: P7.3.
func TestSwap(t *testing.T) {
	r := rand.New(rand.NewSource(4))
	for range 20000 {
		a, big, turn := few(r), r.Intn(2) == 0, r.Intn(2) == 0
		to := []int{16, 32, 64}[r.Intn(3)]
		got := scalar.Swap(to, big, turn, a)
		for _, n := range all(a) {
			m, _ := alu.Swap(to, big, n)
			if turn {
				m, _ = alu.Turn(to, n)
			}
			if !scalar.Has(got, m) {
				t.Fatalf("P7.3: Swap(%d, %v, %v, %+v) = %+v loses %x", to, big, turn, a, got, m)
			}
			if a.T.Mask == 0 && got != scalar.Const(m) {
				t.Fatalf("P7.3: Swap of %x: %+v", n, got)
			}
		}
		if !scalar.Is(got) || to < 64 && got.Umax >= 1<<to {
			t.Fatalf("P7.3: Swap(%d, %v, %v, %+v) = %+v", to, big, turn, a, got)
		}
	}
	for _, to := range []int{0, 8, -16, 65} {
		if got := scalar.Swap(to, true, false, scalar.Unknown()); !scalar.Has(got, 0) || !scalar.Is(got) {
			t.Errorf("P7.3: Swap to %d: %+v", to, got)
		}
	}
	if scalar.Swap(64, false, false, wrong) != scalar.Unknown() {
		t.Error("P7.3: Swap of what isn't a scalar")
	}
}

var comparisons = []int{api.Jeq, api.Jgt, api.Jge, api.Jset, api.Jne, api.Jsgt, api.Jsge, api.Jlt, api.Jle, api.Jslt, api.Jsle}

// TestBranch: P7.4, P7.5.
func TestBranch(t *testing.T) {
	r := rand.New(rand.NewSource(5))
	for round := range 60000 {
		op, wide, taken := comparisons[round%len(comparisons)], r.Intn(2) == 0, r.Intn(2) == 0
		a, b := few(r), few(r)
		switch r.Intn(3) {
		case 0:
			l := all(a)
			b = scalar.Const(l[r.Intn(len(l))] + uint64(r.Intn(3)) - 1)
		case 1:
			b = scalar.Const(samples[r.Intn(len(samples))])
		}
		if r.Intn(8) == 0 {
			a, b = b, a
		}
		x, y, ok := scalar.Branch(op, wide, taken, a, b)
		if !ok && (x != (api.Scalar{}) || y != (api.Scalar{})) || ok && (!scalar.In(x, a) || !scalar.In(y, b) || !scalar.Is(x) || !scalar.Is(y)) {
			t.Fatalf("P7.4: Branch(%d, %v, %v, %+v, %+v) = %+v, %+v, %v", op, wide, taken, a, b, x, y, ok)
		}
		same, what := scalar.Decided(op, wide, a, b)
		for _, n := range all(a) {
			for _, m := range all(b) {
				is, _ := alu.Cmp(op, wide, n, m)
				if is == taken && (!ok || !scalar.Has(x, n) || !scalar.Has(y, m)) {
					t.Fatalf("P7.5: Branch(%d, %v, %v, %+v, %+v) = %+v, %+v, %v loses %x, %x", op, wide, taken, a, b, x, y, ok, n, m)
				}
				if same && is != what {
					t.Fatalf("P7.5: Decided(%d, %v, %+v, %+v) lies", op, wide, a, b)
				}
			}
		}
		if !same && what || a.T.Mask|b.T.Mask == 0 && !same {
			t.Fatalf("P7.4: Decided(%d, %v, %+v, %+v): %v, %v", op, wide, a, b, same, what)
		}
		if wide && b.T.Mask == 0 {
			checkBranch(t, op, taken, a, b.Umin, x, ok)
		}
		if wide {
			checkDecided(t, op, a, b, same, what)
		}
	}
}

// checkBranch: what P7.4 names of a wide comparison with a constant.
func checkBranch(t *testing.T, op int, taken bool, a api.Scalar, k uint64, x api.Scalar, ok bool) {
	t.Helper()
	if !taken {
		contrary := map[int]int{api.Jne: api.Jeq, api.Jgt: api.Jle, api.Jle: api.Jgt, api.Jge: api.Jlt, api.Jlt: api.Jge, api.Jsgt: api.Jsle, api.Jsle: api.Jsgt, api.Jsge: api.Jslt, api.Jslt: api.Jsge, api.Jset: -1}
		op = contrary[op]
	}
	if _, meets := scalar.Meet(a, scalar.Const(k)); op == api.Jeq && ok != meets {
		t.Fatalf("P7.4: equal to %x: %+v: %v", k, a, ok)
	}
	if !ok {
		return
	}
	s := int64(k)
	right := true
	switch op {
	case api.Jgt:
		right = x.Umin > k
	case api.Jge:
		right = x.Umin >= k
	case api.Jlt:
		right = x.Umax < k
	case api.Jle:
		right = x.Umax <= k
	case api.Jsgt:
		right = x.Smin > s
	case api.Jsge:
		right = x.Smin >= s
	case api.Jslt:
		right = x.Smax < s
	case api.Jsle:
		right = x.Smax <= s
	case api.Jeq:
		right = x == scalar.Const(k)
	case -1:
		right = tnum.Most(x.T)&k == 0
	}
	if !right {
		t.Fatalf("P7.4: %d of %+v and %x: %+v", op, a, k, x)
	}
}

// checkDecided: where the ranges say so.
func checkDecided(t *testing.T, op int, a, b api.Scalar, same, what bool) {
	t.Helper()
	yes, no := false, false
	switch op {
	case api.Jgt:
		yes, no = a.Umin > b.Umax, a.Umax <= b.Umin
	case api.Jge:
		yes, no = a.Umin >= b.Umax, a.Umax < b.Umin
	case api.Jlt:
		yes, no = a.Umax < b.Umin, a.Umin >= b.Umax
	case api.Jle:
		yes, no = a.Umax <= b.Umin, a.Umin > b.Umax
	}
	if yes && (!same || !what) || no && (!same || what) {
		t.Fatalf("P7.4: Decided(%d, %+v, %+v): %v, %v", op, a, b, same, what)
	}
}

// TestBranchEdges: P7.4: what no number can be, what is no comparison, what is no scalar.
func TestBranchEdges(t *testing.T) {
	u, zero, most := scalar.Unknown(), scalar.Const(0), scalar.Const(math.MaxUint64)
	for _, c := range []struct {
		op    int
		taken bool
		b     api.Scalar
	}{
		{api.Jgt, true, most}, {api.Jle, false, most}, {api.Jlt, true, zero}, {api.Jge, false, zero}, {api.Jset, true, zero},
		{api.Jsgt, true, scalar.Const(math.MaxInt64)}, {api.Jslt, true, scalar.Const(1 << 63)}, {api.Jsge, false, scalar.Const(1 << 63)},
	} {
		if a, b, ok := scalar.Branch(c.op, true, c.taken, u, c.b); ok || a != (api.Scalar{}) || b != (api.Scalar{}) {
			t.Errorf("P7.4: %+v: %+v", c, a)
		}
	}
	for _, op := range []int{api.Ja, api.Call, api.Exit, 14, -1, 99} {
		five := scalar.Const(5)
		if a, b, ok := scalar.Branch(op, true, true, five, wrong); a != five || b != u || !ok {
			t.Errorf("P7.4: Branch(%d): %+v, %+v, %v", op, a, b, ok)
		}
		if same, what := scalar.Decided(op, true, five, five); same || what {
			t.Errorf("P7.4: Decided(%d)", op)
		}
	}
	if a, _, ok := scalar.Branch(api.Jeq, true, true, wrong, scalar.Const(5)); a != scalar.Const(5) || !ok {
		t.Errorf("P7.4: what isn't a scalar: %+v", a)
	}
	if same, _ := scalar.Decided(api.Jeq, true, wrong, scalar.Const(5)); same {
		t.Error("P7.4: what isn't a scalar is decided")
	}
	// None of its numbers, though no rule sees it.
	empty := api.Scalar{T: tnum.Unknown(), Umin: 5, Umax: math.MaxUint64 - 5, Smin: -3, Smax: 3}
	if !scalar.Is(empty) {
		t.Error("P7.1: what the rules don't see, Sync doesn't")
	}
	for op := range 16 {
		scalar.Do(op, true, empty, empty)
		scalar.Do(op, false, empty, u)
		scalar.Branch(op, true, true, empty, empty)
		scalar.Branch(op, false, false, u, empty)
	}
}

func BenchmarkDo(b *testing.B) {
	x, y := scalar.Between(3, 900), scalar.Between(1, 7)
	for range b.N {
		scalar.Do(api.Add, true, x, y)
	}
}
