// Package take: bytes that are taken one behind the other, the lowest byte of a number first. It is no layer; those that decode bytes lean on it.
package take

// Bytes: what is left of some bytes. Once there wasn't enough, or what there was couldn't be, it is bad for good, and gives zeros.
type Bytes struct {
	rest []byte
	bad  bool
}

// Of: all of b is left; it is only read.
func Of(b []byte) Bytes { return Bytes{rest: b} }

// Left: how many bytes are left.
func (t *Bytes) Left() int { return len(t.rest) }

// Rest: what is left, to look at.
func (t *Bytes) Rest() []byte { return t.rest }

// Bad: whether there was a fault.
func (t *Bytes) Bad() bool { return t.bad }

// Demand: a fault, if it isn't right.
func (t *Bytes) Demand(right bool) { t.bad = t.bad || !right }

// Next: the next n bytes (n not below 0).
func (t *Bytes) Next(n int) []byte {
	if t.bad || n > len(t.rest) {
		t.bad = true
		return make([]byte, n)
	}
	b := t.rest[:n:n]
	t.rest = t.rest[n:]
	return b
}

// number: of the next n bytes.
func (t *Bytes) number(n int) int {
	v := 0
	for i, b := range t.Next(n) {
		v |= int(b) << (8 * i)
	}
	return v
}

// Byte: a number of one byte.
func (t *Bytes) Byte() int { return t.number(1) }

// Short: a number of two bytes.
func (t *Bytes) Short() int { return t.number(2) }

// Number: a number of four bytes.
func (t *Bytes) Number() int { return t.number(4) }

// Flag: a byte that is 0 or 1.
func (t *Bytes) Flag() bool {
	n := t.Byte()
	t.Demand(n <= 1)
	return n == 1
}

// Text: as many bytes as the one ahead of them tells.
func (t *Bytes) Text() string { return string(t.Next(t.Byte())) }
