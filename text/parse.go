package text

import (
	"iter"
	"slices"
	"strconv"
	"strings"

	"barbican/api"
	"barbican/op"
)

// Parse: see P3.2.
func Parse(s string) ([]api.Insn, int, api.Errno) {
	if len(s) > api.MaxText {
		return nil, 0, api.ErrTextLong
	}
	var l []api.Insn
	at, printed := 0, 0
	for line := range lines(s) {
		at++
		if line == "" {
			continue
		}
		slots, ok := operation(line)
		if !ok {
			return nil, at, api.ErrTextLine
		}
		l = append(l, slots...)
		printed += len(line) + 1
	}
	// Only a line feed that s lacks can make it too long for Print.
	if printed > api.MaxText {
		return nil, 0, api.ErrTextLong
	}
	return l, 0, api.OK
}

// lines: of each line what counts: what stands ahead of the first semicolon, without blanks and tabs at its ends.
func lines(s string) iter.Seq[string] {
	return func(yield func(string) bool) {
		from, end := 0, -1
		for i, r := range s {
			switch {
			case r == '\n':
				if end < 0 {
					end = i
				}
				if !yield(strings.Trim(s[from:end], " \t")) {
					return
				}
				from, end = i+1, -1
			case r == ';' && end < 0:
				end = i
			}
		}
		if end < 0 {
			end = len(s)
		}
		if from < len(s) {
			yield(strings.Trim(s[from:end], " \t"))
		}
	}
}

// words: what stands between single blanks.
func words(line string) iter.Seq[string] {
	return func(yield func(string) bool) {
		from := 0
		for i, r := range line {
			if r != ' ' {
				continue
			}
			if !yield(line[from:i]) {
				return
			}
			from = i + 1
		}
		yield(line[from:])
	}
}

// written: whether lines are made of such runes.
func written(r rune) bool {
	switch {
	case r >= 'a' && r <= 'z', r >= '0' && r <= '9':
		return true
	}
	return strings.ContainsRune(" *()+-=/|&<>%^!", r)
}

// operation: the slots whose line this is. What is read loosely is held against the line that it makes.
func operation(line string) ([]api.Insn, bool) {
	for _, r := range line {
		if !written(r) {
			return nil, false
		}
	}
	l := guess(slices.Collect(words(line)))
	if back, e := Line(l, 0); e != api.OK || back != line {
		return nil, false
	}
	return l, true
}

// guess: the slots that a line of these words would be of, if it is one.
func guess(w []string) []api.Insn {
	switch len(w) {
	case 1:
		return []api.Insn{{Op: api.Jmp | api.Exit<<4}}
	case 2:
		return []api.Insn{guessPlain(w[0], w[1])}
	case 3:
		return []api.Insn{guessAlu(w[0], w[1], w[2])}
	case 4:
		return guessFour(w[0], w[2], w[3])
	case 5:
		if strings.HasPrefix(w[0], "*") {
			return []api.Insn{guessStore(w)}
		}
		return []api.Insn{guessLoad(w)}
	case 6:
		return []api.Insn{guessCompare(w)}
	}
	return nil
}

// short: a number of 32 bits; 0 if it is none.
func short(w string) int32 {
	n, err := strconv.ParseInt(w, 10, 32)
	if err != nil {
		return 0
	}
	return int32(n)
}

// near: an offset of 16 bits; 0 if it is none.
func near(w string) int16 {
	n, err := strconv.ParseInt(w, 10, 16)
	if err != nil {
		return 0
	}
	return int16(n)
}

// regOf: the register's number, and whether it is one of 64 bits.
func regOf(w string) (uint8, bool) {
	if len(w) < 2 {
		return 0, false
	}
	n, err := strconv.ParseUint(w[1:], 10, 8)
	if err != nil {
		return 0, false
	}
	return uint8(n), w[0] == 'r'
}

func isReg(w string) bool { return strings.HasPrefix(w, "r") || strings.HasPrefix(w, "w") }

// aluCode, compareCode: the code of a sign, where an Op has it; 0 if it is none.
func aluCode(sign string) uint8 {
	for i, s := range aluSigns {
		if s == sign {
			return uint8(i) << 4
		}
	}
	return 0
}

func compareCode(sign string) uint8 {
	for i, s := range compareSigns {
		if s == sign {
			return uint8(i) << 4
		}
	}
	return 0
}

func guessPlain(verb, arg string) api.Insn {
	if verb == "goto" {
		return api.Insn{Op: api.Jmp | api.Ja<<4, Off: near(arg)}
	}
	x := api.Insn{Op: api.Jmp | api.Call<<4, Imm: short(arg)}
	if strings.HasPrefix(arg, "+") || strings.HasPrefix(arg, "-") {
		x.Src = op.CallsSub
	}
	return x
}

// second: x with an operand of either kind.
func second(x api.Insn, w string) api.Insn {
	if isReg(w) {
		x.Op |= op.ByRegister
		x.Src, _ = regOf(w)
		return x
	}
	x.Imm = short(w)
	return x
}

func guessAlu(d, sign, s string) api.Insn {
	n, wide := regOf(d)
	x := api.Insn{Op: api.Alu, Dst: n}
	if wide {
		x.Op = api.Alu64
	}
	if s == "-"+d {
		x.Op |= api.Neg << 4
		return x
	}
	x.Op |= aluCode(sign)
	return second(x, s)
}

// guessFour: wide loads, and what turns bytes.
func guessFour(d, third, fourth string) []api.Insn {
	n, _ := regOf(d)
	x := api.Insn{Op: op.Wide, Dst: n}
	switch {
	case fourth == "ll":
		v, err := strconv.ParseUint(third, 10, 64)
		if err != nil {
			return nil
		}
		x.Imm = int32(uint32(v))
		return []api.Insn{x, {Imm: int32(uint32(v >> 32))}}
	case third == "map":
		x.Src, x.Imm = op.LoadsMap, short(fourth)
		return []api.Insn{x, {}}
	case third == "func":
		x.Src, x.Imm = op.LoadsFunction, short(fourth)
		return []api.Insn{x, {}}
	}
	x.Op = api.Alu | api.End<<4
	switch {
	case strings.HasPrefix(third, "be"):
		x.Op |= op.ByRegister
	case strings.HasPrefix(third, "swap"):
		x.Op = api.Alu64 | api.End<<4
	}
	x.Imm = short(strings.TrimLeft(third, "abelpsw"))
	return []api.Insn{x}
}

// place: the size, the base and the offset of words like `*(u32`, `*)(r10`, `-8)`.
func place(w []string) (uint8, uint8, int16) {
	size := uint8(memoryMode)
	for i, name := range sizeNames {
		if w[0] == "*("+name {
			size |= uint8(i) << 3
		}
	}
	base, _ := regOf(strings.TrimPrefix(w[1], "*)("))
	return size, base, near(strings.TrimSuffix(w[2], ")"))
}

func guessLoad(w []string) api.Insn {
	size, base, off := place(w[2:])
	d, _ := regOf(w[0])
	return api.Insn{Op: api.Ldx | size, Dst: d, Src: base, Off: off}
}

func guessStore(w []string) api.Insn {
	size, base, off := place(w)
	x := api.Insn{Op: api.St | size, Dst: base, Off: off}
	if isReg(w[4]) {
		x.Op = api.Stx | size
		x.Src, _ = regOf(w[4])
		return x
	}
	x.Imm = short(w[4])
	return x
}

func guessCompare(w []string) api.Insn {
	d, wide := regOf(w[1])
	x := api.Insn{Op: api.Jmp32, Dst: d, Off: near(w[5])}
	if wide {
		x.Op = api.Jmp
	}
	x.Op |= compareCode(w[2])
	return second(x, w[3])
}
