package object

import (
	"barbican/api"
	"barbican/btf"
	"barbican/insn"
	"barbican/take"
)

const (
	magic    = "barb"
	slotSize = 8
)

// Encode: see P5.3.
func Encode(o api.Object) ([]byte, api.Errno) {
	if _, e := Check(o); e != api.OK {
		return nil, e
	}
	types, _ := btf.Encode(o.Types)
	b := append([]byte(magic), types...)
	short := func(n int) { b = append(b, byte(n), byte(n>>8)) }
	b = append(b, byte(len(o.Maps)))
	for _, m := range o.Maps {
		b = append(b, byte(m.Kind), byte(m.Key))
		short(m.Value)
		short(m.Entries)
		b = append(b, bit(m.Timer))
		short(m.Type)
	}
	b = append(b, byte(len(o.Progs)))
	for _, p := range o.Progs {
		b = append(b, byte(len(p.Name)))
		b = append(b, p.Name...)
		short(len(p.Insns))
		b = append(b, insn.Encode(p.Insns)...)
	}
	if len(b) > api.MaxObject {
		return nil, api.ErrObjectLong
	}
	return b, api.OK
}

func bit(yes bool) byte {
	if yes {
		return 1
	}
	return 0
}

// Decode: see P5.3.
func Decode(b []byte) (api.Object, api.Errno) {
	if len(b) > api.MaxObject {
		return api.Object{}, api.ErrObjectLong
	}
	t := &taker{take.Of(b)}
	var o api.Object
	for _, s := range sections(t) {
		s.put(&o)
	}
	if t.Bad() || t.Left() > 0 {
		return api.Object{}, api.ErrObjectForm
	}
	if _, e := Check(o); e != api.OK {
		return api.Object{}, api.ErrObjectForm
	}
	return o, api.OK
}

// section: a part of an object's bytes: how it is put into the object.
type section struct {
	put func(o *api.Object)
}

// sections: all of them, in the order in which they stand.
func sections(t *taker) [4]section {
	return [...]section{{t.magic}, {t.types}, {t.maps}, {t.progs}}
}

// taker: takes sections from bytes.
type taker struct{ take.Bytes }

func (t *taker) magic(*api.Object) { t.Demand(string(t.Next(len(magic))) == magic) }

func (t *taker) types(o *api.Object) {
	l, n, e := btf.Decode(t.Rest())
	t.Demand(e == api.OK)
	o.Types = l
	t.Next(n)
}

func (t *taker) maps(o *api.Object) {
	for range t.Byte() {
		m := api.MapDef{Kind: t.Byte()}
		m.Key = t.Byte()
		m.Value = t.Short()
		m.Entries = t.Short()
		m.Timer = t.Flag()
		m.Type = t.Short()
		o.Maps = append(o.Maps, m)
	}
}

func (t *taker) progs(o *api.Object) {
	for range t.Byte() {
		p := api.Prog{Name: t.Text()}
		p.Insns, _ = insn.Decode(t.Next(slotSize * t.Short()))
		o.Progs = append(o.Progs, p)
	}
}
