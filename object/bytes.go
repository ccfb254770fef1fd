package object

import (
	"barbican/api"
	"barbican/btf"
	"barbican/insn"
)

const (
	magic    = "barb"
	slotSize = 8
)

// Encode: see P5.3.
func Encode(o api.Object) ([]byte, api.Errno) {
	if _, e := Check(o); e != api.OK {
		return nil, e
	}
	types, _ := btf.Encode(o.Types)
	b := append([]byte(magic), types...)
	short := func(n int) { b = append(b, byte(n), byte(n>>8)) }
	b = append(b, byte(len(o.Maps)))
	for _, m := range o.Maps {
		b = append(b, byte(m.Kind), byte(m.Key))
		short(m.Value)
		short(m.Entries)
		b = append(b, bit(m.Timer))
		short(m.Type)
	}
	b = append(b, byte(len(o.Progs)))
	for _, p := range o.Progs {
		b = append(b, byte(len(p.Name)))
		b = append(b, p.Name...)
		short(len(p.Insns))
		b = append(b, insn.Encode(p.Insns)...)
	}
	if len(b) > api.MaxObject {
		return nil, api.ErrObjectLong
	}
	return b, api.OK
}

func bit(yes bool) byte {
	if yes {
		return 1
	}
	return 0
}

// Decode: see P5.3.
func Decode(b []byte) (api.Object, api.Errno) {
	if len(b) > api.MaxObject {
		return api.Object{}, api.ErrObjectLong
	}
	t := &taker{rest: b}
	var o api.Object
	for _, s := range sections(t) {
		s.take(&o)
	}
	if t.bad || len(t.rest) > 0 {
		return api.Object{}, api.ErrObjectForm
	}
	if _, e := Check(o); e != api.OK {
		return api.Object{}, api.ErrObjectForm
	}
	return o, api.OK
}

// section: a part of an object's bytes: how it is put into the object.
type section struct {
	take func(o *api.Object)
}

// sections: all of them, in the order in which they stand.
func sections(t *taker) [4]section {
	return [...]section{{t.magic}, {t.types}, {t.maps}, {t.progs}}
}

// taker: takes what stands next in some bytes; once there wasn't enough, or it couldn't be, it is bad, and answers zeros.
type taker struct {
	rest []byte
	bad  bool
}

func (t *taker) bytes(n int) []byte {
	if t.bad || n > len(t.rest) {
		t.bad = true
		return make([]byte, n)
	}
	b := t.rest[:n]
	t.rest = t.rest[n:]
	return b
}

func (t *taker) byte() int { return int(t.bytes(1)[0]) }

func (t *taker) short() int {
	b := t.bytes(2)
	return int(b[0]) | int(b[1])<<8
}

// flag: a byte that is 0 or 1.
func (t *taker) flag() bool {
	n := t.byte()
	t.bad = t.bad || n > 1
	return n == 1
}

func (t *taker) magic(*api.Object) {
	if string(t.bytes(len(magic))) != magic {
		t.bad = true
	}
}

func (t *taker) types(o *api.Object) {
	l, n, e := btf.Decode(t.rest)
	if t.bad || e != api.OK {
		t.bad = true
		return
	}
	o.Types = l
	t.rest = t.rest[n:]
}

func (t *taker) maps(o *api.Object) {
	for range t.byte() {
		m := api.MapDef{Kind: t.byte(), Key: t.byte(), Value: t.short(), Entries: t.short()}
		m.Timer = t.flag()
		m.Type = t.short()
		o.Maps = append(o.Maps, m)
	}
}

func (t *taker) progs(o *api.Object) {
	for range t.byte() {
		name := string(t.bytes(t.byte()))
		l, _ := insn.Decode(t.bytes(slotSize * t.short()))
		if t.bad {
			return
		}
		o.Progs = append(o.Progs, api.Prog{Name: name, Insns: l})
	}
}
