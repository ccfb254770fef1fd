package script

import (
	"strconv"
	"strings"

	"barbican/api"
)

// trapNames: by the number of the trap; the first one is none's.
var trapNames = [...]string{"", "uninit", "num", "bounds", "dead", "write", "spill", "ptr", "arg", "depth", "fuel", "ref", "type", "ret", "tag"}

// Outcome: see P19.2.
func Outcome(o api.Outcome) string {
	b := []string{"ret", strconv.FormatUint(o.Ret, 10)}
	if o.Trap != api.TrapNone {
		b = []string{"trap", trapName(o.Trap)}
	}
	b = append(b, "at", strconv.Itoa(o.Prog)+":"+strconv.Itoa(o.At), "steps", strconv.Itoa(o.Steps))
	for _, e := range o.Events {
		sign := "+"
		if e.Release {
			sign = "-"
		}
		b = append(b, sign+strconv.Itoa(e.Id))
	}
	return strings.Join(b, " ")
}

func trapName(trap int) string {
	if trap > api.TrapNone && trap < len(trapNames) {
		return trapNames[trap]
	}
	return strconv.Itoa(trap)
}

// cut: a line's words, at least one; where two blanks stand side by side there is one without anything.
func cut(line string) []string {
	var words []string
	from := 0
	for i, r := range line {
		if r == ' ' {
			words = append(words, line[from:i])
			from = i + 1
		}
	}
	return append(words, line[from:])
}

// integers: the numbers with a sign that the words are.
func integers(words []string) ([]int, bool) {
	var l []int
	for _, w := range words {
		n, err := strconv.ParseInt(w, 10, 64)
		if err != nil || strconv.FormatInt(n, 10) != w {
			return nil, false
		}
		l = append(l, int(n))
	}
	return l, true
}

// natural: the number without a sign that a word is.
func natural(w string) (uint64, bool) {
	n, err := strconv.ParseUint(w, 10, 64)
	if err != nil || strconv.FormatUint(n, 10) != w {
		return 0, false
	}
	return n, true
}

// bytesOf: the bytes that a word is.
func bytesOf(w string) ([]byte, bool) {
	if w == "." {
		return nil, true
	}
	if w == "" || len(w)%2 != 0 {
		return nil, false
	}
	b := make([]byte, len(w)/2)
	for i, r := range w {
		n := nibble(r)
		if n < 0 {
			return nil, false
		}
		b[i/2] = b[i/2]<<4 | byte(n)
	}
	return b, true
}

// nibble: the number of a digit; below 0: it is none.
func nibble(r rune) int {
	switch {
	case r >= '0' && r <= '9':
		return int(r - '0')
	case r >= 'a' && r <= 'f':
		return int(r-'a') + 10
	}
	return -1
}

// digits: bytes as a word.
func digits(b []byte) string {
	if len(b) == 0 {
		return "."
	}
	const digit = "0123456789abcdef"
	var w []byte
	for _, x := range b {
		w = append(w, digit[x>>4], digit[x&15])
	}
	return string(w)
}

// joined: words with a blank between.
func joined(words []string) string {
	if len(words) == 0 {
		return nothing
	}
	return strings.Join(words, " ")
}

// rows: bytes as words, with the error that came with them.
func rows(l [][]byte, e api.Errno) (string, api.Errno) {
	var words []string
	for _, b := range l {
		words = append(words, digits(b))
	}
	return joined(words), e
}

func numbers(l []int) string {
	var words []string
	for _, n := range l {
		words = append(words, strconv.Itoa(n))
	}
	return joined(words)
}
