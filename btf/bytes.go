package btf

import (
	"barbican/api"
)

// Encode: see P4.4.
func Encode(l []api.Type) ([]byte, api.Errno) {
	if _, e := Check(l); e != api.OK {
		return nil, e
	}
	var b []byte
	number := func(n int) {
		b = append(b, byte(n), byte(n>>8), byte(n>>16), byte(n>>24))
	}
	name := func(s string) {
		b = append(b, byte(len(s)))
		b = append(b, s...)
	}
	number(len(l))
	for _, t := range l {
		b = append(b, byte(t.Kind))
		name(t.Name)
		number(t.Size)
		b = append(b, bit(t.Signed))
		number(t.To)
		number(t.Count)
		number(len(t.Members))
		for _, m := range t.Members {
			name(m.Name)
			number(m.Type)
			number(m.Bits)
		}
	}
	return b, api.OK
}

func bit(yes bool) byte {
	if yes {
		return 1
	}
	return 0
}

// Decode: see P4.4.
func Decode(b []byte) ([]api.Type, int, api.Errno) {
	t := &taker{rest: b}
	l := t.types()
	if t.bad {
		return nil, 0, api.ErrBtfForm
	}
	if _, e := Check(l); e != api.OK {
		return nil, 0, api.ErrBtfForm
	}
	return l, len(b) - len(t.rest), api.OK
}

// taker: takes what stands next in some bytes; once there wasn't enough, or it couldn't be, it is bad, and answers zeros.
type taker struct {
	rest []byte
	bad  bool
}

func (t *taker) bytes(n int) []byte {
	if t.bad || n > len(t.rest) {
		t.bad = true
		return make([]byte, n)
	}
	b := t.rest[:n]
	t.rest = t.rest[n:]
	return b
}

func (t *taker) byte() int { return int(t.bytes(1)[0]) }

func (t *taker) number() int {
	b := t.bytes(4)
	return int(b[0]) | int(b[1])<<8 | int(b[2])<<16 | int(b[3])<<24
}

func (t *taker) name() string { return string(t.bytes(t.byte())) }

// atMost: a number; one above most is a fault.
func (t *taker) atMost(most int) int {
	n := t.number()
	if n > most {
		t.bad = true
		return 0
	}
	return n
}

func (t *taker) types() []api.Type {
	var l []api.Type
	for range t.atMost(api.MaxTypes) {
		l = append(l, t.oneType())
	}
	return l
}

func (t *taker) oneType() api.Type {
	x := api.Type{Kind: t.byte(), Name: t.name(), Size: t.number()}
	signed := t.byte()
	t.bad = t.bad || signed > 1
	x.Signed = signed == 1
	x.To = t.number()
	x.Count = t.number()
	for range t.atMost(maxMembers) {
		x.Members = append(x.Members, api.Member{Name: t.name(), Type: t.number(), Bits: t.number()})
	}
	return x
}
