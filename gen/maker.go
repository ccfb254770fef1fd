package gen

import (
	"barbican/api"
	"barbican/op"
)

// Sizes of loads and stores, as they stand in an Op; its class comes to it.
const (
	word = 0x60
	half = 0x68
	one  = 0x70
	long = 0x78
)

// Registers between pieces: the context, a number that all pieces add to; two more are a piece's own.
const (
	context = 6
	total   = 7
	mine    = 8
	other   = 9
	stack   = 10
)

func set(d uint8, n int32) api.Insn {
	return api.Insn{Op: api.Alu64 | api.Mov<<4, Dst: d, Imm: n}
}

func move(d, s uint8) api.Insn {
	return api.Insn{Op: api.Alu64 | op.ByRegister | api.Mov<<4, Dst: d, Src: s}
}

func plus(d uint8, n int32) api.Insn { return api.Insn{Op: api.Alu64 | api.Add<<4, Dst: d, Imm: n} }

func both(code int, d, s uint8) api.Insn {
	return api.Insn{Op: api.Alu64 | op.ByRegister | uint8(code)<<4, Dst: d, Src: s}
}

func load(size, d, s uint8, off int16) api.Insn {
	return api.Insn{Op: size | api.Ldx, Dst: d, Src: s, Off: off}
}

func store(size, d, s uint8, off int16) api.Insn {
	return api.Insn{Op: size | api.Stx, Dst: d, Src: s, Off: off}
}

func put(size, d uint8, off int16, n int32) api.Insn {
	return api.Insn{Op: size | api.St, Dst: d, Off: off, Imm: n}
}

func call(n int) api.Insn { return api.Insn{Op: op.Call, Imm: int32(n)} }

func exit() api.Insn { return api.Insn{Op: api.Jmp | api.Exit<<4} }

func wide(d, of uint8, n int32) []api.Insn {
	return []api.Insn{{Op: op.Wide, Dst: d, Src: of, Imm: n}, {}}
}

// part: a subprogram that is still to come: where it is named, and its slots.
type part struct {
	named int
	l     []api.Insn
}

// maker: a program in the making.
type maker struct {
	draw  func(n int) int
	maps  []api.MapDef
	l     []api.Insn
	parts []part
	tags  int16 // how much of the stack dynptrs of memory have taken, for good
	deep  int   // pieces within one another
}

func (m *maker) add(l ...api.Insn) { m.l = append(m.l, l...) }

// over: x, which jumps over what body adds.
func (m *maker) over(x api.Insn, body func()) {
	at := len(m.l)
	m.add(x)
	body()
	m.l[at].Off = int16(len(m.l) - at - 1)
}

// ifFound: what is done only if r0 isn't 0.
func (m *maker) ifFound(body func()) {
	m.over(api.Insn{Op: api.Jmp | api.Jeq<<4}, body)
}

func (m *maker) loadMap(d uint8, i int) { m.add(wide(d, op.LoadsMap, int32(i))...) }

// function: d becomes a function of these slots.
func (m *maker) function(d uint8, l ...api.Insn) {
	m.parts = append(m.parts, part{len(m.l), l})
	m.add(wide(d, op.LoadsFunction, 0)...)
}

// sub: a call of a subprogram of these slots.
func (m *maker) sub(l ...api.Insn) {
	m.parts = append(m.parts, part{len(m.l), l})
	m.add(api.Insn{Op: op.Call, Src: 1})
}

// at: r becomes a pointer to the stack.
func (m *maker) at(r uint8, off int32) { m.add(move(r, stack), plus(r, off)) }

// keyed: what a helper of maps takes first: the map and a key, that lies at the stack's top.
func (m *maker) keyed(i int, key int32) {
	m.add(put(word, stack, -4, key))
	m.at(2, -4)
	m.loadMap(1, i)
}

// finished: the program, with its subprograms behind it.
func (m *maker) finished() []api.Insn {
	m.add(move(0, total), exit())
	for _, p := range m.parts {
		m.l[p.named].Imm = int32(len(m.l) - p.named - 1)
		m.add(p.l...)
	}
	return m.l
}
