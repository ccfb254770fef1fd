package script_test

import (
	"fmt"
	"strings"
	"testing"

	"barbican/api"
	"barbican/script"
	"barbican/text"
	"barbican/vm"
)

func session(t *testing.T, socks int, progs ...string) (*script.Session, *vm.Machine) {
	t.Helper()
	o := api.Object{Maps: []api.MapDef{
		{Kind: api.MArray, Key: 4, Value: 2, Entries: 2}, {Kind: api.MHash, Key: 1, Value: 1, Entries: 2}, {Kind: api.MProgs, Key: 4, Value: 4, Entries: 2}, {Kind: api.MRing, Entries: 64},
		{Kind: api.MArray, Key: 4, Value: 16, Entries: 2, Timer: true},
	}}
	for i, p := range progs {
		l, at, e := text.Parse(strings.ReplaceAll(p, "; ", "\n"))
		if e != api.OK {
			t.Fatalf("line %d of %q", at, p)
		}
		o.Progs = append(o.Progs, api.Prog{Name: fmt.Sprintf("p%d", i), Insns: l})
	}
	m, e := vm.New(o, make20(socks))
	if e != api.OK {
		t.Fatal(e)
	}
	return script.New(m), m
}

func make20(n int) [][]byte {
	var l [][]byte
	for range n {
		l = append(l, []byte("abcdefghijklmnopqrst"))
	}
	return l
}

func does(t *testing.T, s *script.Session, lines ...string) {
	t.Helper()
	for _, l := range lines {
		line, want, _ := strings.Cut(l, " -> ")
		if got, e := s.Do(line); got != want || e != api.OK {
			t.Errorf("P19.1: %q: %q, %d, want %q", line, got, e, want)
		}
	}
}

const timer = "*(u32 *)(r10 -4) = %d; r2 = r10; r2 += -4; r1 = map 4; call 1; if r0 == 0 goto +12; r6 = r0; r1 = r6; r2 = map 4; call 15; r1 = r6; r2 = func +7; call 16; r1 = r6; r2 = %d; call 17; r0 = 0; exit; call 5; exit"

// TestLines: P19.1.
func TestLines(t *testing.T) {
	s, _ := session(t, 2, "r0 = 1; exit", "r0 = *(u8 *)(r1 +63); exit", "call 5; r6 = r0; call 5; r0 += r6; exit", fmt.Sprintf(timer, 0, 5), fmt.Sprintf(timer, 1, 3),
		"r2 = r1; r1 = map 3; r3 = 2; call 8; exit", "*(u64 *)(r10 -16) = 0; *(u64 *)(r10 -8) = 0; r2 = r10; r2 += -16; r3 = 12; call 13; if r0 == 0 goto +2; r1 = r0; call 14; r0 = 0; exit", "r0 = r2; exit")
	ctx := strings.Repeat("00", 63) + "ff"
	does(t, s,
		"run 0 -> ret 1 at 0:1 steps 2", "run 1 -> ret 0 at 1:1 steps 2", "ctx "+ctx+" -> ok", "run 1 -> ret 255 at 1:1 steps 2", "run 8 -> error 140", "run -1 -> error 140", "run 9223372036854775807 -> error 140",
		"run 2 -> ret 0 at 2:4 steps 5", "draws 5 4294967295 -> ok", "run 2 -> ret 4294967300 at 2:4 steps 5", "run 2 -> ret 4294967300 at 2:4 steps 5", "draws -> ok", "run 2 -> ret 0 at 2:4 steps 5",
		"fuel 1 -> ok", "run 0 -> trap fuel at 0:1 steps 1", "fuel 0 -> ok", "run 0 -> trap fuel at 0:0 steps 0", "fuel 1073741824 -> ok", "run 7 -> trap uninit at 7:0 steps 1",
		"lookup 0 00000000 -> 0000", "update 0 01000000 a5ff 0 -> ok", "lookup 0 01000000 -> a5ff", "lookup 0 02000000 -> error 92", "lookup 0 00 -> error 91", "lookup 0 . -> error 91", "lookup 3 00 -> error 95", "lookup 5 00 -> error 140", "lookup -1 00 -> error 140",
		"update 0 00000000 0000 1 -> error 94", "update 0 00000000 0000 18446744073709551615 -> error 96", "update 1 07 01 1 -> ok", "update 1 05 02 0 -> ok", "update 1 06 02 0 -> error 93", "update 1 06 02 2 -> error 92",
		"keys 1 -> 05 07", "delete 1 07 -> ok", "delete 1 07 -> error 92", "delete 0 00000000 -> error 95", "keys 1 -> 05", "delete 1 05 -> ok", "keys 1 -> none", "keys 0 -> 00000000 01000000", "keys 2 -> error 95", "keys 9 -> error 140",
		"set 2 0 1 -> ok", "set 2 1 -1 -> ok", "set 2 0 8 -> error 140", "set 2 2 0 -> error 91", "set 0 0 0 -> error 95",
		"read 3 -> none", "used 3 -> 0", "run 5 -> ret 0 at 5:5 steps 5", "run 5 -> ret 0 at 5:5 steps 5", "used 3 -> 32", "read 3 -> 0000 0000", "used 3 -> 0", "read 0 -> error 95", "used 0 -> error 95", "used 6 -> error 140",
		"counts -> 1 1", "socks 1 -1 0 -> ok", "run 6 -> ret 0 at 6:10 steps 11 +1 -1", "socks 2 -> ok", "run 6 -> error 140", "socks -> ok", "run 6 -> ret 0 at 6:10 steps 9", "counts -> 1 1",
		"now -> 0", "run 3 -> ret 0 at 3:20 steps 18", "run 4 -> ret 0 at 4:20 steps 18", "draws 9 -> ok", "tick 2 -> 0", "now -> 2", "tick 1 -> error 122", "tick 5 -> 2\nret 9 at 4:22 steps 2\nret 9 at 3:22 steps 2", "tick 18446744073709551615 -> 0", "now -> 18446744073709551615",
	)
	empty, _ := session(t, 0, "r0 = 0; exit")
	does(t, empty, "counts -> none", "fuel 3 -> ok")
}

// TestWrong: P19.1, P19.3: lines that can't be change nothing.
func TestWrong(t *testing.T) {
	s, m := session(t, 1, "r6 = *(u8 *)(r1 +0); call 5; r0 += r6; goto +0; exit")
	does(t, s, "draws 7 -> ok", "ctx "+strings.Repeat("05", 64)+" -> ok", "fuel 5 -> ok", "run 0 -> ret 12 at 0:4 steps 5")
	for _, line := range []string{
		"", " ", "run", "run ", "run  0", " run 0", "run 0 ", "run 0 0", "run 00", "run +0", "run -0", "run 0x0", "run a", "run 9223372036854775808", "run -9223372036854775809", "run 1_0", "RUN 0", "runs 0", "run\t0", "run 0\n", "run 0\r",
		"ctx", "ctx .", "ctx 00", "ctx " + strings.Repeat("00", 63), "ctx " + strings.Repeat("00", 65), "ctx " + strings.Repeat("0", 127), "ctx " + strings.Repeat("0G", 64), "ctx " + strings.Repeat("AB", 64), "ctx " + strings.Repeat("00", 64) + " 00", "ctx " + strings.Repeat("é", 64),
		"draws -1", "draws 4294967296", "draws 1 x", "draws ", "draws 1  2", "draws 9223372036854775807", "socks -2", "socks 16", "socks x", "socks 0 ", "fuel", "fuel -1", "fuel 1073741825", "fuel 1 1", "fuel x",
		"tick", "tick -1", "tick 18446744073709551616", "tick 01", "tick 1 1", "lookup 0", "lookup 0 0", "lookup 0 00 00", "lookup x 00", "lookup 0 ..", "lookup 0 zz", "lookup 0 ", "lookup 0 0000000A",
		"update 0 00000000 0000", "update 0 00000000 0000 -1", "update 0 00000000 0000 18446744073709551616", "update 0 00000000 000 0", "update 0 00000000 0000 0 0", "delete 0", "delete 0 0", "keys", "keys 0 0", "keys x", "set 2 0", "set 2 0 0 0", "set 2 0 x", "read", "read .", "used", "used 1 1", "counts 0", "counts ", "now 1", "none", "ok", "ret 1",
		"draws " + strings.Repeat("1 ", 2046) + "1",
	} {
		if got, e := s.Do(line); got != "" || e != api.ErrScriptLine {
			t.Errorf("P19.1: %q: %q, %d", line, got, e)
		}
	}
	does(t, s, "run 0 -> ret 12 at 0:4 steps 5", "now -> 0")
	// At the limit.
	long := "draws " + strings.Repeat("1 ", 2044) + "1"
	if len(long)+1 != 4096 {
		t.Fatal(len(long))
	}
	does(t, s, strings.Replace(long, "s 1", "s 11", 1)+" -> ok")
	if _, e := s.Do(strings.Replace(long, "s 1", "s 111", 1)); e != api.ErrScriptLine {
		t.Errorf("P19.1: 4097 bytes: %d", e)
	}
	// Another session on the same machine has its own context, draws, sockets, fuel.
	other := script.New(m)
	does(t, other, "run 0 -> ret 0 at 0:4 steps 5")
}

// TestOutcome: P19.2.
func TestOutcome(t *testing.T) {
	names := []string{"", "uninit", "num", "bounds", "dead", "write", "spill", "ptr", "arg", "depth", "fuel", "ref", "type", "ret", "tag"}
	for trap := 1; trap < len(names); trap++ {
		if got, want := script.Outcome(api.Outcome{Trap: trap, Prog: 2, At: 30, Steps: 4}), "trap "+names[trap]+" at 2:30 steps 4"; got != want {
			t.Errorf("P19.2: %q, want %q", got, want)
		}
	}
	for want, o := range map[string]api.Outcome{
		"ret 0 at 0:0 steps 0":                      {},
		"ret 18446744073709551615 at 1:2 steps 3":   {Ret: 1<<64 - 1, Prog: 1, At: 2, Steps: 3},
		"trap 15 at 0:0 steps 0":                    {Trap: 15},
		"trap -1 at 0:0 steps 0":                    {Trap: -1},
		"trap ref at 0:9 steps 9 +1 +2 -1 -2 +1000": {Trap: api.TrapRef, At: 9, Steps: 9, Events: []api.Event{{Id: 1, Helper: 5}, {Id: 2}, {Id: 1, Release: true}, {Id: 2, Release: true}, {Id: 1000}}},
		"ret 5 at -1:-2 steps -3":                   {Ret: 5, Prog: -1, At: -2, Steps: -3},
	} {
		if got := script.Outcome(o); got != want {
			t.Errorf("P19.2: %q, want %q", got, want)
		}
	}
}

// FuzzDo: whatever the line.
func FuzzDo(f *testing.F) {
	for _, s := range []string{"run 0", "tick 5", "update 0 00000000 0000 0", "draws 1 2", "counts"} {
		f.Add(s)
	}
	f.Fuzz(func(t *testing.T, line string) {
		s, _ := session(t, 1, "r0 = 0; exit")
		if got, e := s.Do(line); (got == "") != (e != api.OK) || e != api.OK && e != api.ErrScriptLine {
			t.Fatalf("%q: %q, %d", line, got, e)
		}
	})
}
