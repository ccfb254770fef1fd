package vm_test

import (
	"fmt"
	"strings"
	"testing"

	"barbican/api"
	"barbican/vm"
)

const (
	key    = "*(u32 *)(r10 -4) = %d; r2 = r10; r2 += -4; "
	noRoom = minus - 27
)

func keyOf(n int) string { return fmt.Sprintf(key, n) }

// after: a program that is done to its end, and the machine it was done on.
func after(t *testing.T, prog string, o api.Outcome) *vm.Machine {
	t.Helper()
	m := machine(t, defs(), prog)
	got := run(t, m, 0)
	o.Prog, o.At, o.Steps = got.Prog, got.At, got.Steps
	if fmt.Sprint(got) != fmt.Sprint(o) {
		t.Errorf("%s: %v, want %v", prog, got, o)
	}
	return m
}

// TestArguments: P14.9, by the first trap.
func TestArguments(t *testing.T) {
	check(t, "P14.9", []ends{
		// Registers that are needed, in order; by kind.
		{"call 1; exit", api.TrapArg, 0, 0}, {"r1 = 5; call 1; exit", api.TrapArg, 1, 0}, {"r1 = map 0; call 1; exit", api.TrapUninit, 2, 0}, {"r1 = map 2; r2 = 0; call 1; exit", api.TrapArg, 3, 0},
		{"r1 = map 3; r2 = 0; call 1; exit", api.TrapArg, 3, 0}, {"r1 = map 0; r2 = 0; call 1; exit", api.TrapNum, 3, 0}, {"r1 = map 0; r2 = r10; call 1; exit", api.TrapBounds, 3, 0},
		{"r1 = map 0; r2 = r10; r2 += -4; call 1; exit", api.TrapUninit, 4, 0}, {"r1 = r10; call 1; exit", api.TrapArg, 1, 0},
		{"r2 = r1; r2 += 60; r1 = map 0; call 1; exit", 0, 0, 0}, {"r2 = r1; r2 += 61; r1 = map 0; call 1; exit", api.TrapBounds, 4, 0},
		{keyOf(0) + "r3 = r2; r1 = map 1; call 2; exit", api.TrapBounds, 6, 0}, {keyOf(0) + "r3 = r2; r3 += -4; r1 = map 1; call 2; exit", api.TrapUninit, 7, 0},
		{keyOf(0) + "*(u64 *)(r10 -16) = 1; r3 = r10; r3 += -16; r1 = map 1; call 2; exit", api.TrapUninit, 8, 0}, {keyOf(0) + "*(u64 *)(r10 -16) = 1; r3 = r10; r3 += -16; r1 = map 1; r4 = r10; call 2; exit", api.TrapArg, 9, 0},
		{"*(u64 *)(r10 -8) = r1; r1 = map 0; r2 = r10; r2 += -8; call 1; exit", api.TrapSpill, 5, 0},
		// Memory and its size.
		{"r1 = map 3; r2 = r10; call 8; exit", api.TrapUninit, 3, 0}, {"r1 = map 3; r2 = r10; r3 = 0; call 8; exit", api.TrapArg, 4, 0}, {"r1 = map 3; r2 = r10; r3 = 4097; call 8; exit", api.TrapArg, 4, 0},
		{"r1 = map 3; r2 = r10; r3 = -1; call 8; exit", api.TrapArg, 4, 0}, {"r1 = map 3; r2 = r10; r3 = r10; call 8; exit", api.TrapArg, 4, 0}, {"r1 = map 3; r2 = r10; r3 = 4096; call 8; exit", api.TrapBounds, 4, 0},
		{"r1 = map 3; r2 = 5; r3 = 0; call 8; exit", api.TrapArg, 4, 0}, {"r1 = map 3; r2 = 5; r3 = 1; call 8; exit", api.TrapNum, 4, 0}, {"r1 = map 3; r3 = r10; call 8; exit", api.TrapUninit, 3, 0},
		{"r2 = r1; r1 = map 3; r3 = 56; call 8; exit", 0, 0, 0}, {"r2 = r1; r1 = map 3; r3 = 65; call 8; exit", api.TrapBounds, 4, 0},
		// Contexts, functions.
		{"r2 = map 2; r3 = 0; r1 += 1; call 6; exit", api.TrapArg, 4, 0}, {"r1 = r10; r2 = map 2; r3 = 0; call 6; exit", api.TrapArg, 4, 0}, {"r2 = map 0; r3 = 0; call 6; exit", api.TrapArg, 3, 0},
		{"r2 = map 2; call 6; exit", api.TrapUninit, 2, 0},
		// Records.
		{"r1 = 5; call 10; exit", api.TrapArg, 1, 0}, {"r1 = r10; call 10; exit", api.TrapArg, 1, 0}, {"r1 = map 3; r2 = 8; call 9; r1 = r0; r1 += 1; call 10; exit", api.TrapArg, 6, 0},
		{keyOf(0) + "r1 = map 0; call 1; r1 = r0; call 10; exit", api.TrapArg, 7, 0}, {"r1 = map 3; r2 = 8; call 9; r6 = r0; r1 = r0; call 10; r1 = r6; call 11; exit", api.TrapArg, 8, 0},
		// Sockets.
		{"r1 = 5; call 14; exit", api.TrapArg, 1, 0}, {"*(u64 *)(r10 -16) = 0; *(u64 *)(r10 -8) = 0; r2 = r10; r2 += -16; r3 = 12; call 13; r6 = r0; r1 = r0; call 14; r1 = r6; call 14; exit", api.TrapRef, 10, 0},
		// Timers.
		{"r1 = r10; r2 = map 4; call 15; exit", api.TrapArg, 3, 0}, {keyOf(0) + "r1 = map 0; call 1; r1 = r0; r2 = map 4; call 15; exit", api.TrapArg, 9, 0}, {"r1 = 0; call 18; exit", api.TrapArg, 1, 0},
		// Dynptrs, iterators.
		{"r1 = map 3; r2 = 8; r3 = 0; call 19; exit", api.TrapArg, 4, 0}, {"r1 = map 3; r2 = 8; r3 = r10; call 19; exit", api.TrapBounds, 4, 0}, {"r1 = map 3; r2 = 8; r3 = r10; r3 += -12; call 19; exit", api.TrapArg, 5, 0},
		{"r1 = r10; r1 += -16; call 20; exit", api.TrapTag, 2, 0}, {"r1 = 0; call 20; exit", api.TrapArg, 1, 0}, {"r1 = r10; r1 += -16; call 27; exit", api.TrapTag, 2, 0},
		{"r1 = r10; r1 += -16; r2 = 0; r3 = 0; call 26; r1 = r10; r1 += -16; call 20; exit", api.TrapTag, 7, 0}, {"r1 = map 3; r2 = 8; r3 = r10; r3 += -16; call 19; r1 = r10; r1 += -16; call 27; exit", api.TrapTag, 8, 0},
		{"r1 = r10; r1 += -16; r2 = 0; r3 = 0; call 26; r1 = r10; r1 += -16; r2 = 0; r3 = 0; call 26; exit", api.TrapTag, 9, 0}, {"r1 = r10; r1 += -16; r2 = 0; r3 = 0; call 26; *(u8 *)(r10 -1) = 0; exit", api.TrapTag, 5, 0},
		{"r1 = r10; r1 += -16; r2 = 0; call 26; exit", api.TrapUninit, 3, 0},
	})
	// Behind a call r1 to r5 are VNone, the others stay.
	for reg := 1; reg <= 9; reg++ {
		trap, ret := api.TrapUninit, uint64(0)
		if reg > 5 {
			trap, ret = 0, uint64(reg)
		}
		prog := ""
		for k := 1; k <= 9; k++ {
			prog += fmt.Sprintf("r%d = %d; ", k, k)
		}
		check(t, "P14.9", []ends{{prog + fmt.Sprintf("call 4; r0 = r%d; exit", reg), trap, 10, ret}})
	}
}

// TestMaps: P14.10.
func TestMaps(t *testing.T) {
	update := keyOf(1) + "*(u64 *)(r10 -16) = 77; r3 = r10; r3 += -16; r1 = map %d; r4 = %d; call 2; "
	full := ""
	for k := range 3 {
		full += keyOf(k) + "*(u64 *)(r10 -16) = 77; r3 = r10; r3 += -16; r1 = map 1; r4 = 0; call 2; "
	}
	del := keyOf(1) + "r1 = map %d; call 3; "
	check(t, "P14.10", []ends{
		{keyOf(1) + "r1 = map 0; call 1; r0 = *(u64 *)(r0 +0); exit", 0, 0, 0}, {keyOf(2) + "r1 = map 0; call 1; exit", 0, 0, 0}, {keyOf(1) + "r1 = map 1; call 1; exit", 0, 0, 0}, {keyOf(1) + "r1 = map 0; call 1; exit", api.TrapRet, 6, 0},
		{fmt.Sprintf(update, 0, 0) + "exit", 0, 0, 0}, {fmt.Sprintf(update, 0, 1) + "exit", 0, 0, minus - 16}, {fmt.Sprintf(update, 0, 3) + "exit", 0, 0, minus - 21}, {fmt.Sprintf(update, 1, 2) + "exit", 0, 0, minus - 1},
		{fmt.Sprintf(update, 1, 1) + "exit", 0, 0, 0}, {full + "exit", 0, 0, minus - 6}, {strings.Replace(fmt.Sprintf(update, 0, 0), "= 1", "= 2", 1) + "exit", 0, 0, minus - 6},
		{fmt.Sprintf(update, 1, 0) + keyOf(1) + "r1 = map 1; call 1; r0 = *(u64 *)(r0 +0); exit", 0, 0, 77},
		{fmt.Sprintf(del, 0) + "exit", 0, 0, minus - 21}, {fmt.Sprintf(del, 1) + "exit", 0, 0, minus - 1}, {fmt.Sprintf(update, 1, 0) + fmt.Sprintf(del, 1) + "exit", 0, 0, 0},
		// The region of what is deleted lives until the invocation ends.
		{fmt.Sprintf(update, 1, 0) + keyOf(1) + "r1 = map 1; call 1; r6 = r0; " + fmt.Sprintf(del, 1) + "r0 = *(u64 *)(r6 +0); exit", 0, 0, 77},
		{"call 4; exit", 0, 0, 0}, {"call 5; r6 = r0; call 5; r6 += r0; exit", 0, 0, 1 << 31}, {"call 5; call 5; call 5; exit", 0, 0, 9}, {"call 5; call 5; call 5; call 5; exit", 0, 0, 0},
	})
	m := after(t, fmt.Sprintf(update, 1, 0)+fmt.Sprintf(del, 1)+keyOf(0)+"*(u64 *)(r10 -16) = 5; r3 = r10; r3 += -16; r1 = map 1; r4 = 0; call 2; exit", api.Outcome{})
	if l, _ := m.Keys(aHash); fmt.Sprint(l) != "[[0 0 0 0]]" {
		t.Errorf("P14.10: %v", l)
	}
	clock := machine(t, nil, "call 4; exit")
	clock.Tick(1<<63+5, env(), 0)
	if o := run(t, clock, 0); o.Ret != 1<<63+5 {
		t.Errorf("P14.10: clock %d", o.Ret)
	}
}

// TestTailCalls: P14.10.
func TestTailCalls(t *testing.T) {
	tail := "r2 = map 2; r3 = %d; call 6; exit"
	m := machine(t, defs(), fmt.Sprintf(tail, 0), "r0 = *(u8 *)(r1 +9); exit", "r6 = 0; "+fmt.Sprintf(tail, 1), "r0 = r6; exit",
		"call +1; exit; "+fmt.Sprintf(tail, 0), "r6 = r1; r1 = map 3; r2 = 8; call 9; r1 = r6; "+fmt.Sprintf(tail, 0))
	if o := run(t, m, 0); o.Ret != minus-1 || o.Prog != 0 {
		t.Errorf("P14.10: no program there: %v", o)
	}
	m.Set(aProgs, 0, 1)
	if o := run(t, m, 0); o.Ret != 9 || o.Prog != 1 || o.At != 1 || o.Steps != 5 {
		t.Errorf("P14.10: %v", o)
	}
	m.Set(aProgs, 1, 2)
	if o := run(t, m, 2); o.Ret != minus-1 || o.Prog != 2 || o.Steps != 9*4+1 {
		t.Errorf("P14.10: at most MaxTail: %v", o)
	}
	m.Set(aProgs, 1, 3)
	if o := run(t, m, 2); o.Trap != api.TrapUninit || o.Prog != 3 || o.At != 0 {
		t.Errorf("P14.10: a new frame: %v", o)
	}
	if o := run(t, m, 4); o.Trap != api.TrapArg || o.Prog != 4 {
		t.Errorf("P14.10: more than one frame: %v", o)
	}
	if o := run(t, m, 5); o.Trap != api.TrapRef || o.Prog != 5 || len(o.Events) != 1 {
		t.Errorf("P14.10: a reference: %v", o)
	}
	if n, _ := m.Used(aRing); n != 16 {
		t.Errorf("P14.4: what is let go is discarded: %d used", n)
	}
	if l, _ := m.Read(aRing); len(l) != 0 {
		t.Errorf("P14.4: %v", l)
	}
	if n, _ := m.Used(aRing); n != 0 {
		t.Errorf("P14.4: %d used", n)
	}
}

// TestRings: P14.11.
func TestRings(t *testing.T) {
	reserve := "r1 = map 3; r2 = %d; call 9; "
	check(t, "P14.11", []ends{
		{fmt.Sprintf(reserve, 0) + "exit", 0, 0, 0}, {fmt.Sprintf(reserve, -1) + "exit", 0, 0, 0}, {fmt.Sprintf(reserve, 57) + "exit", 0, 0, 0}, {fmt.Sprintf(reserve, 56) + "exit", api.TrapRet, 4, 0},
		{fmt.Sprintf(reserve, 8) + "*(u8 *)(r0 +8) = 1; exit", api.TrapBounds, 4, 0}, {fmt.Sprintf(reserve, 8) + "r6 = r0; r1 = r0; call 10; r0 = *(u8 *)(r6 +0); exit", api.TrapDead, 7, 0},
		{fmt.Sprintf(reserve, 8) + "r1 = map 3; call 12; exit", api.TrapRef, 7, 0}, {fmt.Sprintf(reserve, 8) + "r6 = r0; r1 = map 3; call 12; r7 = r0; r1 = r6; call 11; r0 = r7; exit", 0, 0, 16},
		{"*(u64 *)(r10 -8) = 0; r1 = map 3; r2 = r10; r2 += -8; r3 = 8; call 8; exit", 0, 0, 0},
	})
	events := []api.Event{{Id: 1, Helper: 9}, {Release: true, Id: 1, Helper: 10}}
	m := after(t, fmt.Sprintf(reserve, 4)+"*(u32 *)(r0 +0) = 1027; r1 = r0; call 10; exit", api.Outcome{Events: events})
	if l, e := m.Read(aRing); fmt.Sprint(l) != "[[3 4 0 0]]" || e != api.OK {
		t.Errorf("P14.11: %v", l)
	}
	events[1].Helper = 11
	m = after(t, fmt.Sprintf(reserve, 4)+"r1 = r0; call 11; exit", api.Outcome{Events: events})
	if l, _ := m.Read(aRing); len(l) != 0 {
		t.Errorf("P14.11: %v", l)
	}
	out := machine(t, defs(), "r2 = r1; r1 = map 3; r3 = 24; call 8; exit")
	for _, want := range []uint64{0, 0, noRoom} {
		if o := run(t, out, 0); o.Ret != want || len(o.Events) != 0 {
			t.Errorf("P14.11: %v, want %d", o, want)
		}
	}
	l, _ := out.Read(aRing)
	if len(l) != 2 || len(l[0]) != 24 || l[1][23] != 23 {
		t.Errorf("P14.11: %v", l)
	}
}

// TestSockets: P14.11, P14.4.
func TestSockets(t *testing.T) {
	find := "*(u64 *)(r10 -16) = 0; *(u64 *)(r10 -8) = 0; r7 = r1; "
	look := "r1 = r7; r2 = r10; r2 += -16; r3 = %d; call 13; "
	drop := "r1 = r0; call 14; "
	events := []api.Event{{Id: 1, Helper: 13}, {Release: true, Id: 1, Helper: 14}}
	m := after(t, find+fmt.Sprintf(look, 12)+"r6 = *(u8 *)(r0 +0); "+drop+"r0 = r6; exit", api.Outcome{Ret: 10, Events: events})
	if fmt.Sprint(m.Counts()) != "[1 1]" {
		t.Errorf("P14.11: %v", m.Counts())
	}
	after(t, find+fmt.Sprintf(look, 12)+drop+fmt.Sprintf(look, 12)+"exit", api.Outcome{Events: events})
	after(t, find+fmt.Sprintf(look, 11)+"r6 = r0; "+fmt.Sprintf(look, 13)+"r6 += r0; "+fmt.Sprintf(look, 12)+drop+"r0 = r6; exit", api.Outcome{Events: events})
	long := find + fmt.Sprintf(look, 12) + drop + fmt.Sprintf(look, 12) + fmt.Sprintf(look, 12) + "r6 = *(u8 *)(r0 +0); " + drop + fmt.Sprintf(look, 12) + "r6 += r0; r0 = r6; exit"
	after(t, long, api.Outcome{Events: append(events, api.Event{Id: 2, Helper: 13}, api.Event{Release: true, Id: 2, Helper: 14})})
	m = after(t, find+fmt.Sprintf(look, 12)+"r6 = r0; "+fmt.Sprintf(look, 12)+"r6 = r0; "+fmt.Sprintf(look, 12)+"exit", api.Outcome{Trap: api.TrapRet, Events: []api.Event{{Id: 1, Helper: 13}, {Id: 2, Helper: 13}}})
	if fmt.Sprint(m.Counts()) != "[1 1]" {
		t.Errorf("P14.4: sockets that are held are dropped: %v", m.Counts())
	}
}

// TestManyReferences: P14.11, P14.13 at the limit.
func TestManyReferences(t *testing.T) {
	// 256 turns take a socket each; the callback's own set must stay, so one frame takes them in a loop of jumps.
	take := "r7 = r1; *(u64 *)(r10 -16) = 0; *(u64 *)(r10 -8) = 0; r6 = 256; r1 = r7; r2 = r10; r2 += -16; r3 = 12; call 13; r6 -= 1; if r6 != 0 goto -7; "
	e := env()
	e.Socks = make([]int, 300)
	for name, c := range map[string]struct {
		rest string
		trap int
		at   int
	}{
		"sock_lookup":  {"r1 = r7; r2 = r10; r2 += -16; r3 = 12; call 13; if r0 != 0 goto +1; r0 = *(u8 *)(r0 +0); exit", api.TrapNum, 17},
		"ring_reserve": {"r1 = map 3; r2 = 8; call 9; if r0 != 0 goto +1; r0 = *(u8 *)(r0 +0); exit", api.TrapNum, 16},
		"dyn_reserve":  {"r1 = map 3; r2 = 8; r3 = r10; r3 += -32; call 19; exit", api.TrapRef, 16},
		"iter_new":     {"r1 = r10; r1 += -32; r2 = 0; r3 = 0; call 26; exit", api.TrapRef, 15},
	} {
		m := machine(t, defs(), take+c.rest)
		o, _ := m.Run(0, e, 100000)
		if o.Trap != c.trap || o.At != c.at || len(o.Events) != 256 {
			t.Errorf("%s: %d at %d, %d events", name, o.Trap, o.At, len(o.Events))
		}
		if fmt.Sprint(m.Counts()) != "[1 1]" {
			t.Errorf("%s: %v", name, m.Counts())
		}
		if n, _ := m.Used(aRing); n != 0 {
			t.Errorf("%s: nothing is reserved: %d used", name, n)
		}
	}
}

// TestDynptrs: P14.13.
func TestDynptrs(t *testing.T) {
	at := "r1 = r10; r1 += -16; "
	reserve := "r1 = map 3; r2 = %d; r3 = r10; r3 += -16; call 19; "
	data := at + "r2 = %d; r3 = %d; call 25; "
	ok := fmt.Sprintf(reserve, 16)
	read := "r1 = r10; r1 += -32; r2 = %d; r3 = r10; r3 += -16; r4 = %d; call 23; "
	write := at + "r2 = %d; r3 = r10; r3 += -32; r4 = %d; call 24; "
	end := "r6 = r0; " + at + "call 21; r0 = r6; exit"
	fill := "*(u64 *)(r10 -32) = 258; *(u64 *)(r10 -24) = -1; "
	check(t, "P14.13", []ends{
		{ok + end, 0, 0, 0}, {fmt.Sprintf(reserve, 57) + end, 0, 0, noRoom}, {fmt.Sprintf(reserve, 0) + end, 0, 0, noRoom}, {fmt.Sprintf(reserve, -1) + at + "call 20; exit", 0, 0, 0}, {ok + "exit", api.TrapRef, 6, 0}, {fmt.Sprintf(reserve, 57) + "exit", api.TrapRef, 6, 0},
		{ok + at + "call 20; " + at + "call 20; exit", api.TrapTag, 11, 0}, {ok + at + "call 20; *(u64 *)(r10 -8) = 3; r0 = *(u64 *)(r10 -8); exit", 0, 0, 3},
		{ok + fmt.Sprintf(data, 0, 17) + end, 0, 0, 0}, {ok + fmt.Sprintf(data, 9, 8) + end, 0, 0, 0}, {ok + fmt.Sprintf(data, 16, 1) + end, 0, 0, 0}, {ok + fmt.Sprintf(data, 0, 0) + end, 0, 0, 0}, {ok + fmt.Sprintf(data, -1, 2) + end, 0, 0, 0},
		{ok + fmt.Sprintf(data, 8, 8) + "*(u64 *)(r0 +0) = 5; r0 = *(u64 *)(r0 -8); " + end, 0, 0, 0}, {ok + fmt.Sprintf(data, 8, 8) + "*(u64 *)(r0 +8) = 5; exit", api.TrapBounds, 11, 0}, {fmt.Sprintf(reserve, 57) + fmt.Sprintf(data, 0, 1) + end, 0, 0, 0},
		{ok + fill + fmt.Sprintf(read, 8, 9) + end, 0, 0, minus - 6}, {ok + fill + fmt.Sprintf(read, 8, 8) + "r0 = *(u64 *)(r10 -32); " + end, 0, 0, 0}, {ok + fill + fmt.Sprintf(read, 17, 0) + end, api.TrapTag, 14, 0}, {ok + fill + fmt.Sprintf(read, 16, -1) + end, 0, 0, minus - 6},
		{fmt.Sprintf(reserve, 57) + fill + fmt.Sprintf(read, 8, 0) + end, 0, 0, minus - 21}, {ok + fmt.Sprintf(read, 8, 0) + "r0 = *(u64 *)(r10 -32); " + end, 0, 0, 0}, {ok + fmt.Sprintf(read, 8, 9) + "r0 = *(u64 *)(r10 -32); exit", api.TrapUninit, 13, 0},
		{ok + fill + fmt.Sprintf(write, 8, 8) + fmt.Sprintf(data, 8, 8) + "r0 = *(u64 *)(r0 +0); " + end, 0, 0, 258}, {ok + fill + fmt.Sprintf(write, 9, 8) + end, 0, 0, minus - 6}, {fmt.Sprintf(reserve, 57) + fill + fmt.Sprintf(write, 0, 8) + end, 0, 0, minus - 21},
		{ok + fmt.Sprintf(write, 0, 8) + end, api.TrapUninit, 12, 0}, {ok + fmt.Sprintf(read, 8, 0) + "r0 = 0; " + end, 0, 0, 0}, {"r6 = r1; " + ok + "r1 = r6; r2 = 8; r3 = r10; r3 += -16; r4 = 0; call 23; exit", api.TrapWrite, 12, 0},
		// Of memory.
		{"r1 = r10; r1 += -32; r2 = 8; r3 = r10; r3 += -16; call 22; exit", api.TrapUninit, 5, 0}, {fill + "r1 = r10; r1 += -32; r2 = 8; r3 = r10; r3 += -16; call 22; exit", api.TrapArg, 7, 0}, {"r2 = 8; r3 = r10; r3 += -16; call 22; exit", api.TrapArg, 3, 0},
	})
	mem := keyOf(1) + "r1 = map 0; call 1; r6 = r0; *(u64 *)(r6 +0) = 513; r1 = r6; r1 += 1; r2 = 4; r3 = r10; r3 += -32; call 22; "
	dyn := "r1 = r10; r1 += -32; r2 = %d; r3 = %d; call 25; "
	check(t, "P14.13", []ends{
		{mem + "exit", 0, 0, 0}, {mem + fmt.Sprintf(dyn, 0, 4) + "r0 = *(u8 *)(r0 +0); exit", 0, 0, 2}, {mem + fmt.Sprintf(dyn, 1, 4) + "exit", 0, 0, 0}, {mem + fmt.Sprintf(dyn, 0, 4) + "r0 = *(u8 *)(r0 -1); exit", 0, 0, 1},
		{mem + "r1 = r10; r1 += -32; call 20; exit", api.TrapArg, 16, 0}, {mem + "r1 = r10; r1 += -32; call 21; exit", api.TrapArg, 16, 0}, {strings.Replace(mem, "r2 = 4", "r2 = 8", 1) + "exit", api.TrapBounds, 13, 0},
		{mem + "*(u64 *)(r10 -8) = 7; r1 = r10; r1 += -32; r2 = 1; r3 = r10; r3 += -8; r4 = 2; call 24; r0 = *(u64 *)(r6 +0); exit", 0, 0, 0x070201},
		{"r1 = r10; r1 += -32; r2 = 0; r3 = 1; call 26; r1 = r10; r1 += -32; call 27; r1 = r0; r2 = 4; r3 = r10; r3 += -16; call 22; exit", api.TrapWrite, 12, 0},
		// What a dynptr of memory was made of is no more.
		{"r1 = map 3; r2 = 8; call 9; r6 = r0; r1 = r0; r2 = 8; r3 = r10; r3 += -32; call 22; r1 = r6; call 10; *(u64 *)(r10 -8) = 0; r1 = r10; r1 += -8; r2 = 8; r3 = r10; r3 += -32; r4 = 0; call 23; exit", api.TrapDead, 19, 0},
		{"r1 = map 3; r2 = 8; call 9; r6 = r0; r1 = r0; r2 = 8; r3 = r10; r3 += -32; call 22; r1 = r6; call 10; " + fmt.Sprintf(dyn, 0, 1) + "r0 = *(u8 *)(r0 +0); exit", api.TrapDead, 17, 0},
	})
	events := []api.Event{{Id: 1, Helper: 19}, {Release: true, Id: 1, Helper: 20}}
	m := after(t, ok+fmt.Sprintf(data, 3, 1)+"*(u8 *)(r0 +0) = 9; "+at+"call 20; exit", api.Outcome{Events: events})
	if l, _ := m.Read(aRing); fmt.Sprint(l) != "[[0 0 0 9 0 0 0 0 0 0 0 0 0 0 0 0]]" {
		t.Errorf("P14.13: %v", l)
	}
	m = after(t, ok+"exit", api.Outcome{Trap: api.TrapRef, Events: events[:1]})
	m.Read(aRing)
	if n, _ := m.Used(aRing); n != 0 {
		t.Errorf("P14.4: a dynptr's record is discarded: %d used", n)
	}
}

// TestIterators: P14.13.
func TestIterators(t *testing.T) {
	at := "r1 = r10; r1 += -16; "
	made := at + "r2 = %d; r3 = %d; call 26; "
	next := at + "call 27; "
	end := "r6 = r0; " + at + "call 28; r0 = r6; exit"
	sum := made + "r6 = 0; " + at + "call 27; if r0 == 0 goto +3; r1 = *(u32 *)(r0 +0); r6 += r1; goto -7; " + at + "call 28; r0 = r6; exit"
	check(t, "P14.13", []ends{
		{fmt.Sprintf(made, 0, 0) + end, 0, 0, 0}, {fmt.Sprintf(made, 0, 1024) + end, 0, 0, 0}, {fmt.Sprintf(made, 0, 1025) + end, 0, 0, minus - 6}, {fmt.Sprintf(made, 1, 0) + end, 0, 0, minus - 21}, {fmt.Sprintf(made, -5, 1019) + end, 0, 0, 0}, {fmt.Sprintf(made, -5, 1020) + end, 0, 0, minus - 6},
		{fmt.Sprintf(made, -2147483648, 2147483647) + end, 0, 0, minus - 6}, {fmt.Sprintf(made, 0, 1025) + next + end, 0, 0, 0}, {fmt.Sprintf(made, 1, 0) + next + end, 0, 0, 0}, {fmt.Sprintf(made, 0, 1) + next + next + end, 0, 0, 0}, {fmt.Sprintf(made, 0, 1) + next + end, api.TrapRet, 13, 0},
		{fmt.Sprintf(sum, 0, 5), 0, 0, 10}, {fmt.Sprintf(sum, 0, 1024), 0, 0, 1023 * 512}, {fmt.Sprintf(sum, -1, 1), 0, 0, 0xFFFFFFFF}, {fmt.Sprintf(sum, 7, 7), 0, 0, 0},
		{fmt.Sprintf(made, 0, 5) + next + "*(u8 *)(r0 +0) = 1; exit", api.TrapWrite, 8, 0}, {fmt.Sprintf(made, 0, 5) + next + "r0 = *(u8 *)(r0 +4); exit", api.TrapBounds, 8, 0}, {fmt.Sprintf(made, 0, 5) + "exit", api.TrapRef, 5, 0},
		{fmt.Sprintf(made, 0, 5) + next + "r6 = r0; " + next + "r0 = *(u32 *)(r6 +0); " + end, 0, 0, 1}, {fmt.Sprintf(made, 0, 5) + next + "r6 = r0; " + at + "call 28; r0 = *(u32 *)(r6 +0); exit", api.TrapDead, 12, 0},
		{at + "r2 = 4294967294 ll; r3 = 4294967297 ll; call 26; r6 = r0; " + at + "call 27; r6 = *(u32 *)(r0 +0); " + at + "call 28; r0 = r6; exit", 0, 0, 0xFFFFFFFE},
	})
	after(t, fmt.Sprintf(made, 0, 5)+at+"call 28; exit", api.Outcome{Events: []api.Event{{Id: 1, Helper: 26}, {Release: true, Id: 1, Helper: 28}}})
}

// setTimer: takes the entry of key 1 of the map of timers, made from outside, and does with it what stands behind; r6 is its value.
const setTimer = "*(u32 *)(r10 -4) = 1; r2 = r10; r2 += -4; r1 = map 4; call 1; r6 = r0; "

// timer: a machine with an entry of the map of timers.
func timer(t *testing.T, progs ...string) *vm.Machine {
	t.Helper()
	m := machine(t, defs(), progs...)
	if e := m.Update(timers, []byte{1, 0, 0, 0}, make([]byte, 24), 0); e != api.OK {
		t.Fatal(e)
	}
	return m
}

// TestTimers: P14.12, P14.14, P14.3.
func TestTimers(t *testing.T) {
	start := setTimer + "r1 = r6; r2 = map 4; call 15; r7 = r0; r1 = r6; r2 = func +8; call 16; r7 += r0; r1 = r6; r2 = 5; call 17; r0 += r7; exit; "
	call := "r6 = *(u32 *)(r2 +0); r0 = *(u64 *)(r3 +16); r0 += 1; *(u64 *)(r3 +16) = r0; r0 += r6; exit"
	m := timer(t, start+call)
	if o := run(t, m, 0); o.Trap != 0 || o.Ret != 0 {
		t.Fatalf("P14.12: %v", o)
	}
	if l, e := m.Tick(4, env(), 100); len(l) != 0 || e != api.OK || m.Now() != 4 {
		t.Errorf("P14.3: %v, %d", l, e)
	}
	l, _ := m.Tick(5, env(), 100)
	if fmt.Sprint(l) != fmt.Sprint([]api.Outcome{{At: 27, Ret: 2, Steps: 6}}) {
		t.Errorf("P14.14: %v", l)
	}
	if b, _ := m.Lookup(timers, []byte{1, 0, 0, 0}); b[16] != 1 {
		t.Errorf("P14.14: %v", b)
	}
	if l, _ := m.Tick(99, env(), 100); len(l) != 0 {
		t.Errorf("P14.14: %v", l)
	}
	// Anew: it has its callback; -16 of its second init.
	if o := run(t, m, 0); o.Ret != minus-15 {
		t.Errorf("P14.12: %v", o)
	}
	m.Delete(timers, []byte{1, 0, 0, 0})
	if l, _ := m.Tick(200, env(), 100); len(l) != 0 {
		t.Errorf("P14.2: the timer of what is deleted: %v", l)
	}
	for k, c := range []struct {
		prog string
		trap int
		ret  uint64
	}{
		{setTimer + "r1 = r6; r2 = 5; call 17; exit", 0, minus - 21}, {setTimer + "r1 = r6; call 18; exit", 0, minus - 21}, {setTimer + "r1 = r6; r2 = func +3; call 16; exit; exit", 0, minus - 21},
		{setTimer + "r1 = r6; r2 = map 1; call 15; exit", 0, minus - 21}, {setTimer + "r1 = r6; r2 = map 3; call 15; exit", api.TrapArg, 0}, {setTimer + "r1 = r6; r1 += 16; r2 = map 4; call 15; exit", api.TrapArg, 0},
		{setTimer + "r1 = r6; r2 = map 4; call 15; r1 = r6; r2 = 5; call 17; exit", 0, minus - 21}, {setTimer + "r1 = r6; r2 = map 4; call 15; r1 = r6; call 18; exit", 0, 0},
		{setTimer + "r1 = r6; r2 = map 4; call 15; r1 = r6; r2 = func +8; call 16; r1 = r6; r2 = 1; call 17; r1 = r6; call 18; exit; exit", 0, 1},
		{setTimer + "r0 = *(u8 *)(r6 +15); exit", api.TrapTag, 0}, {setTimer + "r0 = *(u8 *)(r6 +16); exit", 0, 0}, {setTimer + "*(u64 *)(r6 +8) = 0; exit", api.TrapTag, 0},
		// What is deleted keeps its region, but is no timer's any more.
		{setTimer + "r2 = r10; r2 += -4; r1 = map 4; call 3; r1 = r6; r2 = map 4; call 15; exit", 0, minus - 21}, {setTimer + "r2 = r10; r2 += -4; r1 = map 4; call 3; r1 = r6; call 18; exit", 0, minus - 21},
		{setTimer + "r1 = r6; r2 = map 4; call 15; r2 = r10; r2 += -4; r1 = map 4; call 3; r1 = r6; call 18; exit", 0, minus - 21},
	} {
		m := timer(t, c.prog)
		if o := run(t, m, 0); o.Trap != c.trap || o.Ret != c.ret {
			t.Errorf("P14.12: row %d: %v, want trap %d, ret %d", k, o, c.trap, c.ret)
		}
	}
}

// TestCallbacks: P14.14: what a timer's invocation may do.
func TestCallbacks(t *testing.T) {
	start := setTimer + "r1 = r6; r2 = map 4; call 15; r1 = r6; r2 = func +6; call 16; r1 = r6; r2 = 5; call 17; exit; "
	for k, c := range []struct {
		body string
		want api.Outcome
	}{
		{"r0 = 3; exit", api.Outcome{At: 20, Ret: 3, Steps: 2}}, {"exit", api.Outcome{Trap: api.TrapRet, At: 19, Steps: 1}}, {"r0 = r4; exit", api.Outcome{Trap: api.TrapUninit, At: 19, Steps: 1}},
		{"*(u8 *)(r2 +0) = 1; exit", api.Outcome{Trap: api.TrapWrite, At: 19, Steps: 1}}, {"r0 = *(u8 *)(r2 +4); exit", api.Outcome{Trap: api.TrapBounds, At: 19, Steps: 1}}, {"r0 = *(u8 *)(r3 +0); exit", api.Outcome{Trap: api.TrapTag, At: 19, Steps: 1}},
		{"r6 = r3; call 1; r6 -= 0; r0 = *(u64 *)(r6 +16); exit", api.Outcome{At: 23, Steps: 5}}, {"r1 = map 3; r2 = 8; call 9; r0 = 0; exit", api.Outcome{Trap: api.TrapRef, At: 24, Steps: 5, Events: []api.Event{{Id: 1, Helper: 9}}}},
		{"r1 = 0; r2 = map 2; r3 = 0; call 6; exit", api.Outcome{Trap: api.TrapArg, At: 23, Steps: 4}}, {"r0 = *(u8 *)(r3 +24); exit", api.Outcome{Trap: api.TrapBounds, At: 19, Steps: 1}},
		{"call 5; exit", api.Outcome{At: 20, Ret: 7, Steps: 2}}, {"r0 = 0; goto -1", api.Outcome{Trap: api.TrapFuel, At: 20, Steps: 50}},
	} {
		m := timer(t, start+c.body)
		run(t, m, 0)
		l, _ := m.Tick(5, env(), 50)
		if fmt.Sprint(l) != fmt.Sprint([]api.Outcome{c.want}) {
			t.Errorf("P14.14: row %d: %v, want %v", k, l, c.want)
		}
	}
	// Two timers: the first one's callback deletes the other one's entry.
	two := start
	m := timer(t, two+"*(u32 *)(r10 -4) = 2; r1 = map 4; r2 = r10; r2 += -4; call 3; r0 = 0; exit", strings.Replace(two, "= 1;", "= 2;", 1)+"r0 = 9; exit")
	m.Update(timers, []byte{2, 0, 0, 0}, make([]byte, 24), 0)
	run(t, m, 0)
	run(t, m, 1)
	if l, _ := m.Tick(5, env(), 50); len(l) != 1 || l[0].Trap != 0 || l[0].Prog != 0 {
		t.Errorf("P14.3: what isn't a timer of an entry any more: %v", l)
	}
	// In the other order both are fired, with draws anew.
	m = timer(t, two+"call 5; exit", strings.Replace(two, "= 1;", "= 2;", 1)+"call 5; exit")
	m.Update(timers, []byte{2, 0, 0, 0}, make([]byte, 24), 0)
	run(t, m, 1)
	run(t, m, 0)
	l, _ := m.Tick(7, env(), 50)
	if len(l) != 2 || l[0].Prog != 1 || l[1].Prog != 0 || l[0].Ret != 7 || l[1].Ret != 7 {
		t.Errorf("P14.3: %v", l)
	}
}

// TestAfter: P14.4, P14.15: nothing is left of an invocation.
func TestAfter(t *testing.T) {
	m := machine(t, defs(), "*(u64 *)(r10 -8) = 5; r0 = 0; exit", "r0 = *(u64 *)(r10 -8); exit", "*(u64 *)(r10 -16) = 0; *(u64 *)(r10 -8) = 0; r2 = r10; r2 += -16; r3 = 12; call 13; r0 = r9; exit")
	run(t, m, 0)
	if o := run(t, m, 1); o.Trap != api.TrapUninit {
		t.Errorf("P14.15: %v", o)
	}
	for range 20 {
		if o := run(t, m, 2); o.Trap != api.TrapUninit || o.At != 6 || fmt.Sprint(m.Counts()) != "[1 1]" {
			t.Errorf("P14.15: %v, %v", o, m.Counts())
		}
	}
	e := env()
	m = machine(t, nil, "r0 = *(u8 *)(r1 +5); exit")
	m.Run(0, e, 9)
	e.Ctx[5] = 99
	if o, _ := m.Run(0, e, 9); o.Ret != 99 {
		t.Errorf("P14.7: the context of each run: %v", o)
	}
}
