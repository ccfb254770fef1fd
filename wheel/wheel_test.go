package wheel_test

import (
	"fmt"
	"math"
	"math/rand"
	"sort"
	"testing"

	"barbican/api"
	"barbican/wheel"
)

func is(t *testing.T, got, want api.Errno, what string) {
	t.Helper()
	if got != want {
		t.Errorf("%s: %d, want %d", what, got, want)
	}
}

// with: a wheel with timers that have callbacks.
func with(ids ...int) *wheel.Wheel {
	w := wheel.New()
	for _, id := range ids {
		w.Init(id)
		w.Callback(id, id*10, id*100)
	}
	return w
}

func tick(t *testing.T, w *wheel.Wheel, to uint64, want string) {
	t.Helper()
	l, e := w.Tick(to)
	if e != api.OK || fmt.Sprint(l) != want || w.Now() != to {
		t.Errorf("P12.2: Tick(%d): %v, %d, want %s", to, l, e, want)
	}
}

func armed(t *testing.T, w *wheel.Wheel, want string) {
	t.Helper()
	if got := fmt.Sprint(w.Armed()); got != want {
		t.Errorf("P12.1: Armed: %s, want %s", got, want)
	}
}

// TestCalls: P12.1.
func TestCalls(t *testing.T) {
	w := wheel.New()
	if w.Now() != 0 || len(w.Armed()) != 0 {
		t.Error("P12.1: New")
	}
	is(t, w.Callback(5, 1, 2), api.ErrWheelNone, "P12.1: Callback")
	is(t, w.Start(5, 1), api.ErrWheelNone, "P12.1: Start")
	_, e := w.Cancel(5)
	is(t, e, api.ErrWheelNone, "P12.1: Cancel")
	w.Drop(5)
	is(t, w.Init(5), api.OK, "P12.1: Init")
	is(t, w.Init(5), api.ErrWheelHas, "P12.1: Init again")
	is(t, w.Start(5, 1), api.ErrWheelNone, "P12.1: Start without a callback")
	was, e := w.Cancel(5)
	if was || e != api.OK {
		t.Errorf("P12.1: Cancel: %v, %d", was, e)
	}
	is(t, w.Callback(5, 1, 2), api.OK, "P12.1: Callback")
	armed(t, w, "[]")
	is(t, w.Start(5, 1), api.OK, "P12.1: Start")
	armed(t, w, "[5]")
	was, e = w.Cancel(5)
	if !was || e != api.OK {
		t.Errorf("P12.1: Cancel: %v, %d", was, e)
	}
	armed(t, w, "[]")
	tick(t, w, 9, "[]")
	is(t, w.Start(5, 0), api.OK, "P12.1: Start")
	w.Drop(5)
	armed(t, w, "[]")
	tick(t, w, 9, "[]")
	is(t, w.Start(5, 0), api.ErrWheelNone, "P12.1: Start behind Drop")
	is(t, w.Init(5), api.OK, "P12.1: Init behind Drop")
	is(t, w.Start(5, 0), api.ErrWheelNone, "P12.1: it has no callback")
	for _, id := range []int{0, -7, math.MaxInt, math.MinInt} {
		is(t, w.Init(id), api.OK, "P12.1: any number")
	}
}

// TestTick: P12.2.
func TestTick(t *testing.T) {
	w := with(1, 2, 3)
	w.Start(1, 5)
	w.Start(2, 3)
	armed(t, w, "[2 1]")
	tick(t, w, 2, "[]")
	tick(t, w, 4, "[{2 20 200 3}]")
	if l, e := w.Tick(3); len(l) != 0 || e != api.ErrWheelTime || w.Now() != 4 {
		t.Errorf("P12.2: back: %v, %d", l, e)
	}
	tick(t, w, 5, "[{1 10 100 5}]")
	tick(t, w, 5, "[]")
	// Anew.
	w.Start(1, 5)
	w.Start(1, 9)
	armed(t, w, "[1]")
	tick(t, w, 13, "[]")
	tick(t, w, 14, "[{1 10 100 14}]")
	// Ties: by when they were started, also anew.
	w.Start(3, 2)
	w.Start(1, 2)
	w.Start(2, 2)
	w.Start(3, 2)
	w.Callback(2, 7, 8)
	armed(t, w, "[1 2 3]")
	tick(t, w, 100, "[{1 10 100 16} {2 7 8 16} {3 30 300 16}]")
	// The greatest time.
	w.Start(2, math.MaxUint64)
	w.Start(1, math.MaxUint64-101)
	w.Start(3, math.MaxUint64-100)
	armed(t, w, "[1 2 3]")
	tick(t, w, math.MaxUint64-1, "[{1 10 100 18446744073709551614}]")
	tick(t, w, math.MaxUint64, "[{2 7 8 18446744073709551615} {3 30 300 18446744073709551615}]")
	w.Start(2, 1)
	tick(t, w, math.MaxUint64, "[{2 7 8 18446744073709551615}]")
}

// TestSteps: P12.3: a Tick in steps tells what one Tick tells; each against a row.
func TestSteps(t *testing.T) {
	r := rand.New(rand.NewSource(1))
	type start struct {
		id, n int
		when  uint64
	}
	for range 300 {
		one, steps := with(0, 1, 2, 3, 4, 5, 6, 7), with(0, 1, 2, 3, 4, 5, 6, 7)
		row := map[int]start{}
		var now uint64
		for n := range 60 {
			id, after := r.Intn(8), uint64(r.Intn(20))
			switch r.Intn(6) {
			case 0:
				a, _ := one.Cancel(id)
				b, _ := steps.Cancel(id)
				_, was := row[id]
				if a != was || b != was {
					t.Fatal("P12.1: Cancel")
				}
				delete(row, id)
			case 1:
				to := now + after
				all, _ := one.Tick(to)
				var l []api.Fired
				for now < to {
					now++
					m, _ := steps.Tick(now)
					l = append(l, m...)
				}
				m, _ := steps.Tick(to)
				l = append(m, l...)
				var want []start
				for id, s := range row {
					if s.when <= to {
						want = append(want, s)
						delete(row, id)
					}
				}
				sort.Slice(want, func(i, j int) bool {
					return want[i].when < want[j].when || want[i].when == want[j].when && want[i].n < want[j].n
				})
				if len(all) != len(want) {
					t.Fatalf("P12.3: %v, want %v", all, want)
				}
				for i, f := range all {
					if f.Id != want[i].id || f.When != want[i].when || f.Prog != f.Id*10 || f.At != f.Id*100 || f.When > to {
						t.Fatalf("P12.3: %v, want %v", all, want)
					}
				}
				if len(m) == 0 && fmt.Sprint(all) != fmt.Sprint(l) {
					t.Fatalf("P12.3: %v, in steps %v", all, l)
				}
			default:
				one.Start(id, after)
				steps.Start(id, after)
				row[id] = start{id, n, now + after}
			}
			if len(one.Armed()) != len(row) {
				t.Fatalf("P12.1: %v, want %v", one.Armed(), row)
			}
		}
	}
}
