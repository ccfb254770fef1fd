package btf

import (
	"barbican/api"
	"barbican/take"
)

// Encode: see P4.4.
func Encode(l []api.Type) ([]byte, api.Errno) {
	if _, e := Check(l); e != api.OK {
		return nil, e
	}
	var b []byte
	number := func(n int) {
		b = append(b, byte(n), byte(n>>8), byte(n>>16), byte(n>>24))
	}
	name := func(s string) {
		b = append(b, byte(len(s)))
		b = append(b, s...)
	}
	number(len(l))
	for _, t := range l {
		b = append(b, byte(t.Kind))
		name(t.Name)
		number(t.Size)
		b = append(b, bit(t.Signed))
		number(t.To)
		number(t.Count)
		number(len(t.Members))
		for _, m := range t.Members {
			name(m.Name)
			number(m.Type)
			number(m.Bits)
		}
	}
	return b, api.OK
}

func bit(yes bool) byte {
	if yes {
		return 1
	}
	return 0
}

// Decode: see P4.4.
func Decode(b []byte) ([]api.Type, int, api.Errno) {
	t := taker{take.Of(b)}
	l := t.types()
	if t.Bad() {
		return nil, 0, api.ErrBtfForm
	}
	if _, e := Check(l); e != api.OK {
		return nil, 0, api.ErrBtfForm
	}
	return l, len(b) - t.Left(), api.OK
}

// taker: takes types from bytes.
type taker struct{ take.Bytes }

// atMost: a number; one above most is a fault.
func (t *taker) atMost(most int) int {
	n := t.Number()
	t.Demand(n <= most)
	return min(n, most)
}

func (t *taker) types() []api.Type {
	var l []api.Type
	for range t.atMost(api.MaxTypes) {
		l = append(l, t.oneType())
	}
	return l
}

func (t *taker) oneType() api.Type {
	x := api.Type{Kind: t.Byte()}
	x.Name = t.Text()
	x.Size = t.Number()
	x.Signed = t.Flag()
	x.To = t.Number()
	x.Count = t.Number()
	for range t.atMost(maxMembers) {
		m := api.Member{Name: t.Text()}
		m.Type = t.Number()
		m.Bits = t.Number()
		x.Members = append(x.Members, m)
	}
	return x
}
