package verify_test

import (
	"fmt"
	"math/rand"
	"strings"
	"testing"

	"barbican/api"
	"barbican/verify"
	"barbican/vm"
)

// assembled: a program with names for slots: "name:" ahead of a line, "goto name", "func name", "call name".
func assembled(t *testing.T, s string) []api.Insn {
	t.Helper()
	var out []string
	places := map[string]int{}
	slots := 0
	type use struct{ line, at int }
	uses := map[string][]use{}
	for _, line := range strings.Split(s, ";") {
		line = strings.TrimSpace(line)
		if name, rest, ok := strings.Cut(line, ": "); ok {
			places[name] = slots
			line = rest
		}
		words := strings.Fields(line)
		last := words[len(words)-1]
		if last[0] >= 'a' && last[0] <= 'z' && len(words) > 1 && (words[len(words)-2] == "goto" || words[len(words)-2] == "func" || words[len(words)-2] == "call") {
			uses[last] = append(uses[last], use{len(out), slots})
		}
		out = append(out, line)
		slots++
		if strings.Contains(line, " map ") || strings.Contains(line, " func ") || strings.HasSuffix(line, " ll") {
			slots++
		}
	}
	for name, l := range uses {
		to, ok := places[name]
		if !ok {
			t.Fatalf("no %s in %q", name, s)
		}
		for _, u := range l {
			out[u.line] = strings.TrimSuffix(out[u.line], name) + fmt.Sprintf("%+d", to-u.at-1)
		}
	}
	return lines(t, strings.Join(out, "; "))
}

const (
	oneKey  = "*(u32 *)(r10 -4) = 1; r2 = r10; r2 += -4; "
	reserve = "r1 = map 0; r2 = 16; call 9; if r0 == 0 goto none; r6 = r0; "
	find    = "*(u64 *)(r10 -16) = 0; *(u64 *)(r10 -8) = 0; r2 = r10; r2 += -16; r3 = 12; call 13; if r0 == 0 goto none; r6 = r0; "
	value   = oneKey + "r1 = map 1; call 1; if r0 == 0 goto none; r6 = r0; "
	timed   = oneKey + "r1 = map 4; call 1; if r0 == 0 goto none; r6 = r0; "
	none    = "; none: r0 = 0; exit"
	ofValue = "r1 = r6; r2 = 8; r3 = r10; r3 += -32; call 22; "
)

// unsafe: programs that trap, with some context, some state: none may be taken.
func unsafe() []string {
	return []string{
		// What is let go isn't good any more, wherever it stands.
		reserve + "r1 = r6; call 10; r0 = *(u8 *)(r6 +0); exit" + none, reserve + "r1 = r6; call 11; *(u8 *)(r6 +0) = 1; r0 = 0; exit" + none, reserve + "*(u64 *)(r10 -8) = r6; r1 = r6; call 10; r1 = *(u64 *)(r10 -8); r0 = *(u8 *)(r1 +0); exit" + none,
		reserve + "r1 = r6; call 10; r1 = r6; call 10; exit" + none, find + "r1 = r6; call 14; r0 = *(u32 *)(r6 +0); exit" + none, find + "r1 = r6; call 14; r1 = r6; call 14; exit" + none, find + "*(u64 *)(r10 -24) = r6; r1 = r6; call 14; r1 = *(u64 *)(r10 -24); r0 = *(u32 *)(r1 +0); exit" + none,
		reserve + ofValue + "r1 = r6; call 10; *(u64 *)(r10 -8) = 0; r1 = r10; r1 += -8; r2 = 8; r3 = r10; r3 += -32; r4 = 0; call 23; r0 = 0; exit" + none,
		reserve + ofValue + "r1 = r10; r1 += -32; r2 = 0; r3 = 1; call 25; r7 = r0; r1 = r6; call 10; if r7 == 0 goto none; r0 = *(u8 *)(r7 +0); exit" + none,
		reserve + ofValue + "r1 = r6; call 10; r1 = r10; r1 += -32; r2 = 0; r3 = 1; call 25; if r0 == 0 goto none; r0 = *(u8 *)(r0 +0); exit" + none,
		reserve + ofValue + "r1 = r6; call 10; *(u64 *)(r10 -8) = 0; r1 = r10; r1 += -32; r2 = 0; r3 = r10; r3 += -8; r4 = 8; call 24; r0 = 0; exit" + none,
		"r1 = map 0; r2 = 16; r3 = r10; r3 += -16; call 19; r1 = r10; r1 += -16; r2 = 0; r3 = 4; call 25; r6 = r0; r1 = r10; r1 += -16; call 20; if r6 == 0 goto none; r0 = *(u8 *)(r6 +0); exit" + none,
		"r1 = map 0; r2 = 16; r3 = r10; r3 += -16; call 19; r1 = r10; r1 += -16; call 20; r1 = r10; r1 += -16; call 21; r0 = 0; exit",
		"r1 = r10; r1 += -16; r2 = 0; r3 = 5; call 26; r1 = r10; r1 += -16; call 27; r6 = r0; r1 = r10; r1 += -16; call 28; r0 = *(u32 *)(r6 +0); exit",
		"r1 = r10; r1 += -16; r2 = 0; r3 = 5; call 26; r1 = r10; r1 += -16; call 28; r1 = r10; r1 += -16; call 27; r0 = 0; exit",
		// Frames that are gone.
		"call f; r6 = r0; call f; r0 = *(u64 *)(r6 -8); exit; f: *(u64 *)(r10 -8) = 1; r0 = r10; exit", "call f; r1 = r0; call g; exit; f: r0 = r10; exit; g: *(u64 *)(r1 -8) = 1; r0 = 0; exit",
		"r1 = r10; call f; r1 = *(u64 *)(r10 -8); *(u64 *)(r1 -16) = 1; r0 = 0; exit; f: *(u64 *)(r1 -8) = r10; r0 = 0; exit", "r1 = r10; call f; call g; exit; f: r0 = r10; exit; g: r0 = r6; exit",
		// What one way lays, another one doesn't.
		"r2 = *(u8 *)(r1 +0); if r2 == 0 goto skip; *(u64 *)(r10 -8) = 1; skip: r0 = *(u64 *)(r10 -8); exit", "r2 = *(u8 *)(r1 +0); if r2 == 0 goto skip; r0 = 1; skip: exit", "r2 = *(u8 *)(r1 +0); r3 = 5; if r2 == 0 goto skip; r3 = r10; skip: r3 *= 2; r0 = 0; exit",
		"r2 = *(u8 *)(r1 +0); *(u64 *)(r10 -8) = 1; if r2 == 0 goto skip; goto +0; goto end; skip: *(u64 *)(r10 -8) = r1; end: r0 = *(u64 *)(r10 -8); exit", "r2 = *(u8 *)(r1 +0); r3 = 8; if r2 == 0 goto skip; goto end; skip: r3 = 80; end: r1 += r3; r0 = *(u8 *)(r1 +0); exit",
		"r7 = *(u8 *)(r1 +0); " + value + "if r7 == 0 goto mark; goto end; mark: " + ofValue + "end: *(u64 *)(r10 -24) = 0; r0 = 0; exit" + none, "r7 = *(u8 *)(r1 +0); r6 = 5; if r7 == 0 goto one; goto two; one: call f; goto end; two: r7 = 0; call f; r6 = 0; end: r0 = r8; exit; f: r0 = 0; exit",
		"r7 = *(u8 *)(r1 +0); r6 = 5; if r7 != 0 goto end; r6 = r10; end: call f; r6 *= 3; r0 = 0; exit; f: r0 = 0; if r0 == 0 goto g; r0 = 1; g: exit",
		"r2 = r10; r1 = *(u8 *)(r1 +0); call f; exit; f: r6 = r10; if r1 != 0 goto end; r6 = r2; end: *(u64 *)(r6 -8) = 0; r0 = *(u64 *)(r10 -8); exit",
		"r2 = r10; r1 = *(u8 *)(r1 +0); call f; exit; f: r6 = r2; if r1 != 0 goto end; r6 = r10; end: *(u64 *)(r6 -8) = 0; r0 = *(u64 *)(r10 -8); exit", "r2 = *(u8 *)(r1 +0); if r2 != 0 goto end; r6 = 5; end: r0 = r6; exit", "r2 = *(u8 *)(r1 +0); if r2 != 0 goto end; r6 = 5; end: call f; r0 = r6; exit; f: r0 = 0; exit",
		"r6 = *(u8 *)(r1 +0); call 4; if r6 != 0 goto low; *(u64 *)(r10 -8) = r0; goto end; low: *(u32 *)(r10 -8) = r0; end: r0 = *(u64 *)(r10 -8); exit", "r2 = *(u32 *)(r1 +0); *(u64 *)(r10 -8) = 0; if r2 != 0 goto end; *(u32 *)(r10 -16) = 0; end: r0 = *(u64 *)(r10 -12); exit",
		"r2 = *(u8 *)(r1 +0); *(u32 *)(r10 -8) = 0; if r2 == 0 goto end; *(u32 *)(r10 -4) = 0; end: r0 = *(u64 *)(r10 -8); exit",
		// Tail calls.
		"r7 = r1; " + reserve + "r1 = r7; r2 = map 3; r3 = 0; call 6; r1 = r6; call 10; r0 = 0; exit" + none, "call f; exit; f: r2 = map 3; r3 = 0; call 6; exit", "r1 += 1; r2 = map 3; r3 = 0; call 6; exit",
		"r2 = map 3; r3 = 0; call 6; r0 = *(u8 *)(r1 +0); exit", "r2 = func f; r3 = 0; r1 = 1; call 7; exit; f: r2 = map 3; r3 = 0; call 6; r0 = 0; exit",
		// References.
		reserve + "r0 = 0; exit" + none, find + "r0 = 0; exit" + none, "r1 = r10; r1 += -16; r2 = 0; r3 = 1; call 26; r0 = 0; exit", "r1 = map 0; r2 = 16; r3 = r10; r3 += -16; call 19; r0 = 0; exit", "call f; r0 = 0; exit; f: r1 = r10; r1 += -16; r2 = 0; r3 = 1; call 26; r0 = 0; exit",
		"r1 = 1; r2 = func f; r3 = 0; call 7; r0 = 0; exit; f: " + reserve + "r0 = 0; exit" + none, reserve + "*(u64 *)(r10 -8) = r6; r1 = 1; r2 = func f; r3 = r10; call 7; r0 = 0; exit; none: r0 = 0; exit; f: r6 = r2; r1 = *(u64 *)(r2 -8); call 11; r0 = 0; exit",
		reserve + "*(u64 *)(r10 -8) = r6; r1 = 1; r2 = func f; r3 = r10; call 7; r1 = *(u64 *)(r10 -8); call 10; exit; none: r0 = 0; exit; f: r6 = r2; r1 = *(u64 *)(r2 -8); call 11; r1 = map 0; r2 = 16; call 9; *(u64 *)(r6 -8) = r0; r0 = 0; exit",
		"r6 = 300; more: r1 = map 0; r2 = 8; r3 = r10; r3 += -16; call 19; r6 -= 1; if r6 != 0 goto more; r0 = 0; exit",
		// Timers' bytes, what isn't to be written, what isn't there.
		timed + "r0 = *(u8 *)(r6 +15); exit" + none, timed + "*(u8 *)(r6 +0) = 0; r0 = 0; exit" + none, timed + "r0 = *(u64 *)(r6 +12); exit" + none, timed + "r1 = r6; r2 = 8; r3 = r10; r3 += -32; call 22; r0 = 0; exit" + none, timed + "r1 = map 0; r2 = r6; r3 = 24; call 8; exit" + none, timed + "r0 = *(u8 *)(r6 +24); exit" + none,
		timed + "r1 = r6; r1 += 16; r2 = map 4; call 15; exit" + none, value + "r1 = r6; r2 = map 4; call 15; exit" + none, "*(u8 *)(r1 +0) = 1; r0 = 0; exit", "r1 = r10; r1 += -16; r2 = 0; r3 = 5; call 26; r1 = r10; r1 += -16; call 27; *(u8 *)(r0 +0) = 1; r1 = r10; r1 += -16; call 28; exit",
		"r1 = r10; r1 += -16; r2 = 0; r3 = 5; call 26; r1 = r10; r1 += -16; call 27; r1 = r0; r2 = 4; r3 = r10; r3 += -32; call 22; r1 = r10; r1 += -16; call 28; exit", "r1 = r10; r1 += -16; r2 = 0; r3 = 5; call 26; r1 = r10; r1 += -16; call 27; r0 = *(u64 *)(r0 +0); r1 = r10; r1 += -16; call 28; exit",
		"r3 = *(u8 *)(r1 +0); r1 = r10; r1 += -16; r2 = 0; call 26; r1 = r10; r1 += -16; call 27; r6 = *(u32 *)(r0 +0); r1 = r10; r1 += -16; call 28; exit", "r1 = r10; r1 += -16; r2 = 3; r3 = 2; call 26; r1 = r10; r1 += -16; call 27; r6 = *(u32 *)(r0 +0); r1 = r10; r1 += -16; call 28; exit",
		"r1 = r10; r1 += -16; r2 = 0; r3 = 1025; call 26; r1 = r10; r1 += -16; call 27; r6 = *(u32 *)(r0 +0); r1 = r10; r1 += -16; call 28; exit", "r1 = r10; r1 += -16; r2 = 0; r3 = 1; call 26; r1 = r10; r1 += -16; call 27; r1 = r10; r1 += -16; call 27; r6 = *(u32 *)(r0 +0); r1 = r10; r1 += -16; call 28; exit",
		// Sizes that aren't known.
		"r2 = *(u8 *)(r1 +0); r2 &= 15; r2 += 1; r1 = map 0; call 9; if r0 == 0 goto none; *(u8 *)(r0 +9) = 1; r1 = r0; call 10; exit" + none, "r6 = *(u8 *)(r1 +0); r1 = map 0; r2 = 8; r3 = r10; r3 += -16; call 19; r1 = r10; r1 += -16; r2 = 0; r3 = r6; call 25; r6 = r0; if r0 == 0 goto end; r0 = *(u8 *)(r6 +9); end: r1 = r10; r1 += -16; call 20; r0 = 0; exit",
		"r3 = *(u8 *)(r1 +0); *(u64 *)(r10 -8) = 0; r2 = r10; r2 += -8; r1 = map 0; call 8; exit", "r3 = *(u8 *)(r1 +0); r3 &= 15; r3 += 1; *(u64 *)(r10 -8) = 0; r2 = r10; r2 += -8; r1 = map 0; call 8; exit",
		value + "r7 = 1; r1 = r6; r2 = 16; r3 = r10; r3 += -32; call 22; r1 = r10; r1 += -32; r2 = 4; r3 = 8; call 25; if r0 == 0 goto none; r0 = *(u8 *)(r0 +12); exit" + none,
		"r6 = *(u8 *)(r1 +0); *(u64 *)(r10 -8) = 0; r2 = r10; r2 -= r6; r0 = *(u8 *)(r2 -8); exit", "r6 = *(u8 *)(r1 +0); r1 += r6; r0 = *(u8 *)(r1 +0); exit", "r6 = *(u8 *)(r1 +0); r6 &= 63; r1 += r6; r0 = *(u16 *)(r1 +0); exit",
		"r6 = *(u32 *)(r1 +0); r6 <<= 32; r6 s>>= 32; if r6 s> 5 goto none; r1 += r6; r0 = *(u8 *)(r1 +0); exit" + none, "r6 = *(u32 *)(r1 +0); r1 += r6; r0 = 0; exit", "r6 = *(u32 *)(r1 +0); r6 <<= 1; r1 -= r6; r0 = 0; exit",
		value + "r1 = *(u32 *)(r6 +0); if w1 s> 5 goto none; r6 += r1; r0 = *(u8 *)(r6 +0); exit" + none,
		// What is read by dynptrs may not be written.
		value + ofValue + "r1 = r10; r1 += -8; r2 = 8; r3 = r10; r3 += -32; r4 = 4; call 23; r0 = *(u64 *)(r10 -8); exit" + none, value + ofValue + "*(u64 *)(r10 -8) = r6; r1 = r10; r1 += -8; r2 = 8; r3 = r10; r3 += -32; r4 = 0; call 23; r1 = *(u64 *)(r10 -8); r0 = *(u8 *)(r1 +0); exit" + none,
		"r9 = *(u8 *)(r1 +0); r9 &= 7; r9 += 1; " + value + ofValue + "r1 = r10; r1 += -8; r2 = r9; r3 = r10; r3 += -32; r4 = 0; call 23; if r0 != 0 goto none; r0 = *(u64 *)(r10 -8); exit" + none,
		"r9 = *(u8 *)(r1 +0); r9 &= 7; r9 += 1; " + value + ofValue + "*(u64 *)(r10 -40) = r6; r1 = r10; r1 += -48; r2 = 9; r2 += r9; *(u64 *)(r10 -48) = 0; r2 = r9; r2 += 0; r1 += 8; r3 = r10; r3 += -32; r4 = 0; call 23; if r0 != 0 goto none; r1 = *(u64 *)(r10 -40); r0 = *(u8 *)(r1 +0); exit" + none,
		// Dynptrs and iterators that are touched, or aren't.
		value + ofValue + "*(u64 *)(r10 -32) = 0; r0 = 0; exit" + none, value + ofValue + "r0 = *(u64 *)(r10 -24); exit" + none, value + ofValue + "r1 = r10; r1 += -24; r2 = 0; r3 = 1; call 25; r0 = 0; exit" + none, value + ofValue + "r1 = r10; r1 += -32; call 20; exit" + none, value + ofValue + ofValue + "r0 = 0; exit" + none,
		"r1 = r10; r1 += -16; r2 = 0; r3 = 5; call 26; r1 = r10; r1 += -16; call 20; r0 = 0; exit", "r1 = r10; r1 += -16; r2 = 0; r3 = 5; call 26; r1 = map 0; r2 = r10; r2 += -16; r3 = 8; call 8; r1 = r10; r1 += -16; call 28; exit", "r1 = r10; r1 += -12; r2 = 0; r3 = 5; call 26; r1 = r10; r1 += -12; call 28; exit",
		"r1 = r10; r1 += -520; r2 = 0; r3 = 5; call 26; r0 = 0; exit", "*(u64 *)(r10 -8) = r1; r0 = *(u32 *)(r10 -8); exit", "*(u64 *)(r10 -8) = r1; *(u8 *)(r10 -1) = 0; r0 = *(u64 *)(r10 -8); exit", "*(u64 *)(r10 -12) = r1; r0 = 0; exit", value + "*(u64 *)(r6 +0) = r10; r0 = 0; exit" + none,
		// Sockets.
		find + "*(u32 *)(r6 +0) = 1; r1 = r6; call 14; exit" + none, find + "r7 = *(u64 *)(r6 +0); r1 = r6; call 14; exit" + none, find + "r7 = *(u32 *)(r6 +12); r1 = r6; call 14; exit" + none, find + "r6 += 0; r1 = r6; call 14; exit" + none, find + "r1 = map 0; r2 = r6; r3 = 4; call 8; r1 = r6; call 14; exit" + none,
		value + ofValue + "r1 = r10; r1 += -32; r2 = 0; r3 = 4; call 25; if r0 == 0 goto none; r0 += 2; r0 = *(u8 *)(r0 +18); exit" + none, "r2 = r1; r2 += 5; r1 = map 0; r3 = 60; call 8; exit", "r6 = *(u16 *)(r1 +0); r1 = r6; r2 = func f; r3 = r10; *(u64 *)(r10 -8) = 0; call 7; r0 = *(u64 *)(r10 -8); r6 = r10; r6 -= r0; r0 = *(u8 *)(r6 -8); exit; f: r3 = *(u64 *)(r2 -8); if r1 & 1 goto end; r3 += 1; end: *(u64 *)(r2 -8) = r3; r0 = 0; exit",
		"r1 = 9; r2 = func f; r3 = r10; call 7; r6 = r10; r0 *= 8; r6 -= r0; r0 = *(u64 *)(r6 +0); exit; f: r6 = r2; r7 = r1; call 5; if r0 & 1 goto end; goto +0; end: r0 &= 1; exit",
		// Callbacks: what they get, what they answer, how deep they are.
		"r1 = 1; r2 = func f; r3 = 0; call 7; r0 = 0; exit; f: exit", "r1 = 1; r2 = func f; r3 = 0; call 7; r0 = 0; exit; f: r0 = r10; exit", "r1 = 1; r2 = func f; r3 = 0; call 7; r0 = 0; exit; f: r0 = *(u8 *)(r2 +0); exit", "r1 = 1; r2 = func f; r3 = 0; call 7; r0 = 0; exit; f: r0 = r3; exit",
		"*(u64 *)(r10 -8) = 0; r1 = 5; r2 = func f; r3 = r10; call 7; r0 = 0; exit; f: r3 = *(u64 *)(r2 -8); r3 += 1; r3 *= 1; *(u64 *)(r2 -8) = r2; r0 = 0; exit",
		"r1 = 5; r2 = func f; r3 = 5; call 7; exit; f: r0 = 0; exit", "r1 = 5; r2 = func f; r3 = map 0; call 7; exit; f: r0 = 0; exit", "r1 = r10; r2 = func f; r3 = 0; call 7; exit; f: r0 = 0; exit", "r1 = 5; r2 = 7; r3 = 0; call 7; exit",
		"r3 = r10; *(u64 *)(r10 -8) = 0; r2 = func f; *(u64 *)(r10 -16) = r2; r1 = 1; call 7; r0 = 0; exit; f: r3 = r2; r2 = *(u64 *)(r2 -16); r1 = 1; call 7; r0 = 0; exit",
		timed + "r1 = r6; r2 = map 4; call 15; r1 = r6; r2 = func f; call 16; r1 = r6; r2 = 0; call 17; exit; none: r0 = 0; exit; f: exit", timed + "r1 = r6; r2 = map 4; call 15; r1 = r6; r2 = func f; call 16; r1 = r6; r2 = 0; call 17; exit; none: r0 = 0; exit; f: *(u8 *)(r2 +0) = 1; r0 = 0; exit",
		timed + "r1 = r6; r2 = map 4; call 15; r1 = r6; r2 = func f; call 16; r1 = r6; r2 = 0; call 17; exit; none: r0 = 0; exit; f: r0 = *(u8 *)(r2 +4); exit", timed + "r1 = r6; r2 = map 4; call 15; r1 = r6; r2 = func f; call 16; r1 = r6; r2 = 0; call 17; exit; none: r0 = 0; exit; f: r0 = *(u8 *)(r3 +0); exit",
		timed + "r1 = r6; r2 = map 4; call 15; r1 = r6; r2 = func f; call 16; r1 = r6; r2 = 0; call 17; exit; none: r0 = 0; exit; f: r2 = map 3; r3 = 0; call 6; r0 = 0; exit", timed + "r1 = r6; r2 = map 4; call 15; r1 = r6; r2 = func f; call 16; r1 = r6; r2 = 0; call 17; exit; none: r0 = 0; exit; f: r1 = map 0; r2 = 16; call 9; r0 = 0; exit",
		// Numbers and pointers.
		"r0 = *(u8 *)(r0 +0); exit", "r2 = 5; r0 = *(u8 *)(r2 +0); exit", "r2 = 5; *(u8 *)(r2 +0) = 1; r0 = 0; exit", "r1 *= 2; r0 = 0; exit", "w1 += 1; r0 = 0; exit", "r1 += r1; r0 = 0; exit", "r2 = 5; r2 -= r1; r0 = 0; exit", "if r1 > 5 goto +0; r0 = 0; exit", "if w1 == 0 goto +0; r0 = 0; exit",
		"if r1 == 1 goto +0; r0 = 0; exit", "r2 = 0; if r1 == r2 goto +0; r0 = 0; exit", "r2 = map 0; r2 += 1; r0 = 0; exit", "r2 = map 0; r0 = *(u8 *)(r2 +0); exit", "r1 = be16 r1; r0 = 0; exit", "r1 = -r1; r0 = 0; exit", "w0 = w1; r0 = 0; exit", "r2 = func f; r2 += 1; r0 = 0; exit; f: r0 = 0; exit",
		"r2 += 1; r0 = 0; exit", "r0 = 1; r0 += r2; exit", "r0 = 0; if r2 == 0 goto +0; exit", "r0 = 0; if r0 == r2 goto +0; exit", "*(u64 *)(r10 -8) = r2; r0 = 0; exit", "r0 = be16 r0; exit", "r1 += 536870913; r0 = 0; exit", "r1 += 536870912; r1 += 1; r0 = 0; exit", "call 4; r0 = r1; exit",
		"r0 = *(u64 *)(r10 -8); exit", "*(u64 *)(r10 +0) = 1; r0 = 0; exit",
	}
}

// TestUnsafe: P17.2: none of them is taken; and each does trap.
func TestUnsafe(t *testing.T) {
	for _, s := range unsafe() {
		l := assembled(t, s)
		o := object(l, maps()...)
		v, e := verify.Check(o, 0)
		if e != api.OK {
			t.Fatalf("%s: %d", s, e)
		}
		if v.Why == api.OK {
			t.Errorf("P17.2: taken: %s", s)
		}
		if !traps(t, o) {
			t.Errorf("doesn't trap: %s: %+v", s, v)
		}
	}
}

// traps: whether a run traps, with some context and some state.
func traps(t *testing.T, o api.Object) bool {
	t.Helper()
	r := rand.New(rand.NewSource(5))
	m, e := vm.New(o, [][]byte{make([]byte, api.SockSize), make([]byte, api.SockSize)})
	if e != api.OK {
		t.Fatal(e)
	}
	for range 300 {
		outside(r, m, o)
		m.Update(4, []byte{1, 0, 0, 0}, make([]byte, 24), 0)
		env := someEnv(r)
		env.Socks = append([]int{1}, env.Socks...)
		out, _ := m.Run(0, env, 20000)
		l, _ := m.Tick(m.Now(), env, 20000)
		for _, x := range append(l, out) {
			if x.Trap != api.TrapNone && x.Trap != api.TrapFuel {
				return true
			}
		}
	}
	return false
}

// results: what each helper may answer, as programs: behind the last line r0 is its result. All of it must be looked at.
func results() map[string][]int64 {
	return map[string][]int64{
		oneKey + "*(u64 *)(r10 -16) = 7; r1 = map 2; r3 = r10; r3 += -16; r4 = *(u8 *)(r9 +0); r4 &= 3; call 2; ": {0, -2, -7, -17, -22},
		oneKey + "r1 = map 2; call 3; ":                       {0, -2},
		oneKey + "r1 = map 1; call 3; ":                       {-22},
		"r1 = r9; r2 = map 3; r3 = 99; call 6; ":              {-2},
		"r1 = *(u16 *)(r9 +0); r2 = func f; r3 = 0; call 7; ": {-7, 0, 1, 2},
		"r2 = r9; r1 = map 0; r3 = 60; call 8; ":              {0, -28},
		"r1 = map 0; call 12; ":                               {0, 72, 144},
		timed + "r1 = r6; r2 = map 4; call 15; ":              {0, -16},
		timed + "r1 = r6; r2 = map 1; call 15; ":              {-22},
		timed + "r1 = r6; r2 = func f; call 16; ":             {0, -22},
		timed + "r1 = r6; r2 = 5; call 17; ":                  {0, -22},
		timed + "r1 = r6; call 18; ":                          {0, 1, -22},
		"r1 = map 0; r2 = 900; r3 = r10; r3 += -16; call 19; r6 = r0; r1 = r10; r1 += -16; call 20; r0 = r6; ": {0, -28},
		value + ofValue: {0},
		value + ofValue + "r1 = r10; r1 += -8; r2 = 8; r3 = r10; r3 += -32; r4 = *(u8 *)(r9 +0); call 23; ":                                                                                          {0, -7},
		value + ofValue + "r1 = r6; r1 += 8; r2 = 8; r3 = r10; r3 += -32; r4 = *(u8 *)(r9 +0); call 23; ":                                                                                            {0, -7},
		value + ofValue + "*(u64 *)(r10 -8) = 0; r1 = r10; r1 += -32; r2 = *(u8 *)(r9 +0); r3 = r10; r3 += -8; r4 = 8; call 24; ":                                                                    {0, -7},
		"r1 = map 0; r2 = 0; r3 = r10; r3 += -32; call 19; r1 = r10; r1 += -8; r2 = 8; r3 = r10; r3 += -32; r4 = 0; call 23; r6 = r0; r1 = r10; r1 += -32; call 20; r0 = r6; ":                       {-22},
		"*(u64 *)(r10 -8) = 0; r1 = map 0; r2 = 0; r3 = r10; r3 += -32; call 19; r1 = r10; r1 += -32; r2 = 0; r3 = r10; r3 += -8; r4 = 8; call 24; r6 = r0; r1 = r10; r1 += -32; call 20; r0 = r6; ": {-22},
		"r3 = *(u16 *)(r9 +0); r2 = *(u8 *)(r9 +1); r1 = r10; r1 += -16; call 26; r6 = r0; r1 = r10; r1 += -16; call 28; r0 = r6; ":                                                                  {0, -7, -22},
		"r3 = 5; r2 = 6; r1 = r10; r1 += -16; call 26; r6 = r0; r1 = r10; r1 += -16; call 28; r0 = r6; ":                                                                                             {-22},
		"r3 = 5000; r2 = 6; r1 = r10; r1 += -16; call 26; r6 = r0; r1 = r10; r1 += -16; call 28; r0 = r6; ":                                                                                          {-7},
	}
}

// TestResults: P17.2: a program that traps just where a helper answers a certain number isn't taken.
func TestResults(t *testing.T) {
	for s, l := range results() {
		for _, n := range l {
			prog := fmt.Sprintf("r9 = r1; %sif r0 == %d goto bad; r0 = 0; exit; bad: r0 = r8; exit; none: r0 = 0; exit; f: r0 = 0; if r1 != 1 goto +1; r0 = 1; exit", s, n)
			if !strings.Contains(s, "none") {
				prog = strings.Replace(prog, "; none: r0 = 0; exit", "", 1)
			}
			if !strings.Contains(s, "func f") {
				prog, _, _ = strings.Cut(prog, "; f: ")
			}
			if strings.Contains(s, "call 16") {
				prog = strings.Replace(prog, "if r1 != 1 goto +1; r0 = 1; ", "", 1)
			}
			o := object(assembled(t, prog), maps()...)
			if v, e := verify.Check(o, 0); e != api.OK || v.Why == api.OK {
				t.Errorf("P17.2: %s answers %d: %+v, %d", s, n, v, e)
			}
			good := strings.Replace(prog, "bad: r0 = r8", "bad: r0 = 8", 1)
			if v, _ := verify.Check(object(assembled(t, good), maps()...), 0); v.Why != api.OK {
				t.Errorf("isn't taken: %s: %+v", good, v)
			}
		}
	}
}
