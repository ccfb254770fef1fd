package text_test

import (
	"reflect"
	"strings"
	"testing"

	"barbican/api"
	"barbican/insn"
	"barbican/text"
)

func slot(op, dst, src uint8, off int16, imm int32) api.Insn {
	return api.Insn{Op: op, Dst: dst, Src: src, Off: off, Imm: imm}
}

func rows(l ...api.Insn) []api.Insn { return l }

var exit = slot(0x95, 0, 0, 0, 0)

// TestLine: P3.1, each form.
func TestLine(t *testing.T) {
	for _, c := range []struct {
		l    []api.Insn
		want string
	}{
		{rows(slot(0x18, 0, 0, 0, -1), slot(0, 0, 0, 0, -1)), "r0 = 18446744073709551615 ll"},
		{rows(slot(0x18, 10, 0, 0, 0), slot(0, 0, 0, 0, 0)), "r10 = 0 ll"},
		{rows(slot(0x18, 1, 0, 0, 5), slot(0, 0, 0, 0, 1)), "r1 = 4294967301 ll"},
		{rows(slot(0x18, 1, 1, 0, 3), slot(0, 0, 0, 0, 0)), "r1 = map 3"},
		{rows(slot(0x18, 1, 1, 0, -3), slot(0, 0, 0, 0, 0)), "r1 = map -3"},
		{rows(slot(0x18, 2, 4, 0, 6), slot(0, 0, 0, 0, 0)), "r2 = func +6"},
		{rows(slot(0x18, 2, 4, 0, -6), slot(0, 0, 0, 0, 0)), "r2 = func -6"},
		{rows(slot(0x61, 1, 2, 0, 0)), "r1 = *(u32 *)(r2 +0)"},
		{rows(slot(0x69, 1, 2, -1, 0)), "r1 = *(u16 *)(r2 -1)"},
		{rows(slot(0x71, 1, 2, 32767, 0)), "r1 = *(u8 *)(r2 +32767)"},
		{rows(slot(0x79, 1, 10, -32768, 0)), "r1 = *(u64 *)(r10 -32768)"},
		{rows(slot(0x62, 10, 0, -4, 7)), "*(u32 *)(r10 -4) = 7"},
		{rows(slot(0x6A, 10, 0, -4, -7)), "*(u16 *)(r10 -4) = -7"},
		{rows(slot(0x72, 1, 0, 4, 0)), "*(u8 *)(r1 +4) = 0"},
		{rows(slot(0x7A, 1, 0, 4, -2147483648)), "*(u64 *)(r1 +4) = -2147483648"},
		{rows(slot(0x63, 10, 1, -8, 0)), "*(u32 *)(r10 -8) = r1"},
		{rows(slot(0x6B, 10, 1, -8, 0)), "*(u16 *)(r10 -8) = r1"},
		{rows(slot(0x73, 10, 1, -8, 0)), "*(u8 *)(r10 -8) = r1"},
		{rows(slot(0x7B, 10, 1, -8, 0)), "*(u64 *)(r10 -8) = r1"},
		{rows(slot(0x07, 1, 0, 0, 5)), "r1 += 5"},
		{rows(slot(0x0F, 1, 2, 0, 0)), "r1 += r2"},
		{rows(slot(0x04, 1, 0, 0, 5)), "w1 += 5"},
		{rows(slot(0x0C, 1, 2, 0, 0)), "w1 += w2"},
		{rows(slot(0x17, 1, 0, 0, -5)), "r1 -= -5"},
		{rows(slot(0x2F, 1, 2, 0, 0)), "r1 *= r2"},
		{rows(slot(0x37, 1, 0, 0, 0)), "r1 /= 0"},
		{rows(slot(0x47, 1, 0, 0, 1)), "r1 |= 1"},
		{rows(slot(0x54, 1, 0, 0, 1)), "w1 &= 1"},
		{rows(slot(0x67, 1, 0, 0, 1)), "r1 <<= 1"},
		{rows(slot(0x77, 1, 0, 0, 1)), "r1 >>= 1"},
		{rows(slot(0x97, 1, 0, 0, 1)), "r1 %= 1"},
		{rows(slot(0xA7, 1, 0, 0, 1)), "r1 ^= 1"},
		{rows(slot(0xB7, 0, 0, 0, 0)), "r0 = 0"},
		{rows(slot(0xBF, 0, 10, 0, 0)), "r0 = r10"},
		{rows(slot(0xB4, 0, 0, 0, -1)), "w0 = -1"},
		{rows(slot(0xBC, 0, 3, 0, 0)), "w0 = w3"},
		{rows(slot(0xC4, 3, 0, 0, 4)), "w3 s>>= 4"},
		{rows(slot(0xCF, 3, 4, 0, 0)), "r3 s>>= r4"},
		{rows(slot(0x87, 3, 0, 0, 0)), "r3 = -r3"},
		{rows(slot(0x84, 3, 0, 0, 0)), "w3 = -w3"},
		{rows(slot(0xD4, 3, 0, 0, 16)), "r3 = le16 r3"},
		{rows(slot(0xDC, 3, 0, 0, 32)), "r3 = be32 r3"},
		{rows(slot(0xD7, 3, 0, 0, 64)), "r3 = swap64 r3"},
		{rows(slot(0x05, 0, 0, 0, 0)), "goto +0"},
		{rows(slot(0x05, 0, 0, -8, 0)), "goto -8"},
		{rows(slot(0x15, 1, 0, 2, 3)), "if r1 == 3 goto +2"},
		{rows(slot(0x1D, 1, 2, 2, 0)), "if r1 == r2 goto +2"},
		{rows(slot(0x16, 1, 0, 2, 3)), "if w1 == 3 goto +2"},
		{rows(slot(0x1E, 1, 2, 2, 0)), "if w1 == w2 goto +2"},
		{rows(slot(0x25, 1, 0, -2, 3)), "if r1 > 3 goto -2"},
		{rows(slot(0x35, 1, 0, 2, 3)), "if r1 >= 3 goto +2"},
		{rows(slot(0x45, 1, 0, 2, 3)), "if r1 & 3 goto +2"},
		{rows(slot(0x55, 1, 0, 2, 3)), "if r1 != 3 goto +2"},
		{rows(slot(0x65, 0, 0, 2, -1)), "if r0 s> -1 goto +2"},
		{rows(slot(0x75, 1, 0, 2, 3)), "if r1 s>= 3 goto +2"},
		{rows(slot(0xA5, 1, 0, 2, 3)), "if r1 < 3 goto +2"},
		{rows(slot(0xB5, 1, 0, 2, 3)), "if r1 <= 3 goto +2"},
		{rows(slot(0xC5, 1, 0, 2, 3)), "if r1 s< 3 goto +2"},
		{rows(slot(0xD5, 1, 0, 2, 3)), "if r1 s<= 3 goto +2"},
		{rows(slot(0xDE, 1, 10, 2, 0)), "if w1 s<= w10 goto +2"},
		{rows(slot(0x85, 0, 0, 0, 12)), "call 12"},
		{rows(slot(0x85, 0, 0, 0, 2147483647)), "call 2147483647"},
		{rows(slot(0x85, 0, 0, 0, 0)), "call 0"},
		{rows(slot(0x85, 0, 1, 0, 4)), "call +4"},
		{rows(slot(0x85, 0, 1, 0, -4)), "call -4"},
		{rows(exit), "exit"},
	} {
		if got, e := text.Line(c.l, 0); got != c.want || e != api.OK {
			t.Errorf("P3.1: %v: %q, %d, want %q", c.l, got, e, c.want)
		}
		l, at, e := text.Parse(c.want)
		if !reflect.DeepEqual(l, c.l) || at != 0 || e != api.OK {
			t.Errorf("P3.2: Parse(%q): %v, %d, %d", c.want, l, at, e)
		}
		if got, e := text.Print(c.l); got != c.want+"\n" || e != api.OK {
			t.Errorf("P3.2: Print(%v): %q, %d", c.l, got, e)
		}
	}
}

// TestNoLine: P3.1, what has no line.
func TestNoLine(t *testing.T) {
	wide := slot(0x18, 0, 0, 0, 1)
	for _, c := range []struct {
		l  []api.Insn
		at int
	}{
		{nil, 0}, {rows(exit), 1}, {rows(exit), -1},
		{rows(api.Insn{}), 0}, {rows(slot(0xB7, 0, 1, 0, 0)), 0}, {rows(slot(0xBF, 0, 0, 0, 1)), 0},
		{rows(slot(0xB7, 11, 0, 0, 0)), 0}, {rows(slot(0xBF, 0, 11, 0, 0)), 0},
		{rows(wide), 0}, {rows(wide, exit), 0}, {rows(wide, exit), 1}, {rows(wide, slot(0, 0, 0, 1, 0)), 0},
		{rows(slot(0x18, 0, 1, 0, 1), slot(0, 0, 0, 0, 1)), 0}, {rows(slot(0x18, 0, 2, 0, 1), api.Insn{}), 0},
		{rows(wide, api.Insn{}), 1}, {rows(slot(0x18, 11, 0, 0, 1), api.Insn{}), 0},
		{rows(slot(0x85, 0, 0, 0, -1)), 0}, {rows(slot(0x85, 0, 2, 0, 1)), 0}, {rows(slot(0x06, 0, 0, 0, 0)), 0},
	} {
		if got, e := text.Line(c.l, c.at); got != "" || e != api.ErrTextLine {
			t.Errorf("P3.1: Line(%v, %d): %q, %d", c.l, c.at, got, e)
		}
		if c.at == 0 && len(c.l) > 0 {
			if got, e := text.Print(append(rows(exit), c.l...)); got != "" || e != api.ErrTextLine {
				t.Errorf("P3.2: Print of %v: %q, %d", c.l, got, e)
			}
		}
	}
}

// TestPrint: P3.2 with several operations.
func TestPrint(t *testing.T) {
	l := rows(slot(0x18, 0, 0, 0, 1), slot(0, 0, 0, 0, 0), slot(0x07, 0, 0, 0, 1), exit)
	if got, e := text.Print(l); got != "r0 = 1 ll\nr0 += 1\nexit\n" || e != api.OK {
		t.Errorf("P3.2: %q, %d", got, e)
	}
	if got, e := text.Print(nil); got != "" || e != api.OK {
		t.Errorf("P3.2: %q, %d", got, e)
	}
	// 13107 lines of 5 bytes are one byte short of MaxText; lines of 7 and 9 bytes make up for it.
	var many []api.Insn
	for range 13104 {
		many = append(many, exit)
	}
	many = append(many, slot(0xB7, 0, 0, 0, 0), slot(0x07, 0, 0, 0, 0))
	got, e := text.Print(many)
	if len(got) != 13104*5+7+8 || e != api.OK {
		t.Errorf("P3.2: %d bytes, %d", len(got), e)
	}
	just := append(many, api.Insn{Op: 0x95})[:13106]
	just = append(just[:13104:13104], slot(0x07, 0, 0, 0, 0), slot(0x07, 0, 0, 0, 0))
	if got, e := text.Print(just); len(got) != api.MaxText || e != api.OK {
		t.Errorf("P3.2: just MaxText: %d bytes, %d", len(got), e)
	}
	more := append(just[:13104:13104], slot(0x07, 0, 0, 0, 0), slot(0x07, 0, 0, 0, 10))
	if got, e := text.Print(more); got != "" || e != api.ErrTextLong {
		t.Errorf("P3.2: one more: %d bytes, %d", len(got), e)
	}
	if got, e := text.Print(append(more, api.Insn{})); got != "" || e != api.ErrTextLine {
		t.Errorf("P3.2: a line that can't be comes first: %d bytes, %d", len(got), e)
	}
}

// TestParse: P3.2: what counts for nothing, and what doesn't.
func TestParse(t *testing.T) {
	ok := []struct {
		s    string
		want []api.Insn
	}{
		{"", nil}, {"\n\n", nil}, {" \t", nil}, {";", nil}, {"; r0=0", nil},
		{"  exit ; done", rows(exit)}, {"\texit\t\n", rows(exit)}, {" \t exit \t ;;; \u00e9\xff\r\n\n;\nexit", rows(exit, exit)},
		{"exit;", rows(exit)}, {"exit\n", rows(exit)}, {"exit\nexit", rows(exit, exit)},
		{"r0 = 1 ll\nexit", rows(slot(0x18, 0, 0, 0, 1), api.Insn{}, exit)},
	}
	for _, c := range ok {
		l, at, e := text.Parse(c.s)
		if len(l) != len(c.want) || len(l) > 0 && !reflect.DeepEqual(l, c.want) || at != 0 || e != api.OK {
			t.Errorf("P3.2: Parse(%q): %v, %d, %d", c.s, l, at, e)
		}
	}
	for _, line := range []string{
		"r0=0", "r0  = 0", "r0 = 00", "r0 = +0", "r0 = -0", "r0 = 01", "r0 = 2147483648", "r0 = -2147483649", "r11 = 0", "r00 = 0", "r-1 = 0",
		"R0 = 0", "r0 = 0x1", "r0\t= 0", "r0 = w1", "w0 = r1", "r0 =", "r0 = ", "= 0", "0 = r0", "r0 == 0", "r0 s<<= 1", "r = 0", "w = w",
		"r0 = -r1", "r0 += -r0", "r0 = -w0", "r0 = 18446744073709551616 ll", "r0 = -1 ll", "r0 = 01 ll", "r0 = 1 LL", "w0 = 1 ll",
		"r0 = map +1", "r0 = map 2147483648", "r0 = func 1", "r0 = func +01", "w0 = map 1", "r0 = fun +1",
		"r0 = *(u32 *)(r1 0)", "r0 = *(u32 *)(r1 +0) ", "r0 = *(u31 *)(r1 +0)", "r0 = *(u32 *)(w1 +0)", "w0 = *(u32 *)(r1 +0)", "r0 = *(u32 *)(r1 +32768)",
		"r0 = *(u32 *) (r1 +0)", "r0 = *(u32*)(r1 +0)", "*(u32 *)(r1 +0) = w1", "*(u32 *)(r1 +0) += r1", "*(u32 *)(r1 +0) == r1", "*(u32 *)(r1 +0)= r1", "*(u32 *)(r1 -0) = 1",
		"goto 0", "goto +32768", "goto -32769", "goto", "goto +1 +1", "call", "call 4294967296", "call 012", "call r1", "exit exit", "exi", "EXIT", "exit\r", "exit\v", "exit é",
		"if r0 == 0 goto 1", "if r0 = 0 goto +1", "if r0 == w1 goto +1", "if w0 == r1 goto +1", "if r0 == 0 got +1", "iff r0 == 0 goto +1", "if r0 === 0 goto +1", "if r0 += 0 goto +1",
		"r0 = le8 r0", "r0 = le16 r1", "w0 = le16 w0", "r0 = le16", "r0 = el16 r0", "r0 = be16 w0", "r0 = swap48 r0", "r0 = 16 r0", "_", "r0 = 1_0",
	} {
		if strings.TrimRight(line, " ") != line {
			continue // blanks at the end count for nothing
		}
		l, at, e := text.Parse("exit\n\n ;\n" + line + "\nexit\nwrong\n")
		if len(l) != 0 || at != 4 || e != api.ErrTextLine {
			t.Errorf("P3.2: Parse(%q): %v, %d, %d", line, l, at, e)
		}
	}
}

// TestParseLong: P3.2 at the limit.
func TestParseLong(t *testing.T) {
	s := "exit;" + strings.Repeat("x", api.MaxText-5)
	if l, at, e := text.Parse(s); len(l) != 1 || at != 0 || e != api.OK {
		t.Errorf("P3.2: MaxText bytes: %v, %d, %d", l, at, e)
	}
	if l, at, e := text.Parse(s + "x"); len(l) != 0 || at != 0 || e != api.ErrTextLong {
		t.Errorf("P3.2: one more: %v, %d, %d", l, at, e)
	}
	full := strings.Repeat("exit\n", 13104) + "r0 += 0\nr0 += 0\n"
	if l, _, e := text.Parse(full); len(full) != api.MaxText || len(l) != 13106 || e != api.OK {
		t.Errorf("P3.2: %d bytes: %d slots, %d", len(full), len(l), e)
	}
	// Without its last line feed this has MaxText bytes, with it Print has no text for it.
	full = strings.Repeat("exit\n", 13104) + "r0 += 0\nr0 += 10"
	if l, at, e := text.Parse(full); len(full) != api.MaxText || len(l) != 0 || at != 0 || e != api.ErrTextLong {
		t.Errorf("P3.3: %d slots, %d, %d", len(l), at, e)
	}
}

// TestBack: P3.3, over all Ops and many fields.
func TestBack(t *testing.T) {
	seen := map[string]api.Insn{}
	for op := range 256 {
		for _, dst := range []uint8{0, 1, 10} {
			for _, src := range []uint8{0, 1, 4, 9, 10} {
				for _, off := range []int16{0, 1, -1, 32767, -32768} {
					for _, imm := range []int32{0, 1, -1, 16, 32, 64, 2147483647, -2147483648} {
						x := slot(uint8(op), dst, src, off, imm)
						l := rows(x)
						if op == 0x18 {
							l = rows(x, api.Insn{})
						}
						line, e := text.Line(l, 0)
						if e != api.OK {
							continue
						}
						if y, ok := seen[line]; ok && y != x {
							t.Fatalf("P3.3: %v and %v have one line: %s", x, y, line)
						}
						seen[line] = x
						if m, _, e := text.Parse(line); e != api.OK || !reflect.DeepEqual(m, l) {
							t.Fatalf("P3.3: %v: %q: %v, %d", l, line, m, e)
						}
					}
				}
			}
		}
	}
	if len(seen) < 5000 {
		t.Errorf("only %d lines", len(seen))
	}
	if _, e := insn.Check(rows(exit)); e != api.OK {
		t.Error(e)
	}
}

// FuzzParse: P3.3.
func FuzzParse(f *testing.F) {
	for _, s := range []string{"r0 = 0\nexit", "  exit ; done", "r0 = 5 ll\n*(u64 *)(r10 -8) = r1", "if r0 s> -1 goto +2\ncall 12\ncall +4"} {
		f.Add(s)
	}
	f.Fuzz(func(t *testing.T, s string) {
		l, at, e := text.Parse(s)
		if e != api.OK {
			if len(l) != 0 || e == api.ErrTextLine && at < 1 {
				t.Fatal(l, at, e)
			}
			return
		}
		p, e := text.Print(l)
		m, _, f := text.Parse(p)
		if e != api.OK || f != api.OK || len(l) != len(m) || len(l) > 0 && !reflect.DeepEqual(l, m) {
			t.Fatalf("P3.3: %q: %v, %q, %v", s, l, p, m)
		}
	})
}
