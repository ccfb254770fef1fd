package gen

import (
	"barbican/api"
)

// The maps of each object.
const (
	anArray = iota
	aHash
	aProgs
	aRing
	timers
)

// maps: those of an object; their sizes differ.
func maps(draw func(n int) int) []api.MapDef {
	return []api.MapDef{
		{Kind: api.MArray, Key: 4, Value: 16 + 8*draw(5), Entries: 1 + draw(8)},
		{Kind: api.MHash, Key: 4, Value: 8, Entries: 1 + draw(8)},
		{Kind: api.MProgs, Key: 4, Value: 4, Entries: 1 + draw(4)},
		{Kind: api.MRing, Entries: 256 << draw(5)},
		{Kind: api.MArray + draw(2), Key: 4, Value: 24, Entries: 1 + draw(3), Timer: true},
	}
}

// piece: adds something to a program that leaves the registers between pieces as they must be.
type piece struct {
	make func(m *maker)
}

// pieces: all there are.
func pieces() [22]piece {
	return [...]piece{
		{arithmetic}, {readContext}, {useStack}, {lookUp}, {update}, {remove}, {clock}, {random}, {tailCall}, {loop}, {output},
		{submit}, {discard}, {query}, {findSocket}, {startTimer}, {submitDyn}, {discardDyn}, {memoryDyn}, {iterate}, {callSub}, {choose},
	}
}

// program: one of some pieces.
func program(draw func(n int) int, defs []api.MapDef) []api.Insn {
	m := &maker{draw: draw, maps: defs}
	m.add(move(context, 1), set(total, int32(draw(256))))
	for range 1 + draw(4) {
		m.piece()
	}
	return m.finished()
}

func (m *maker) piece() {
	all := pieces()
	all[m.draw(len(all))].make(m)
}

func arithmetic(m *maker) {
	codes := [...]uint8{api.Add, api.Sub, api.Mul, api.Div, api.Or, api.And, api.Lsh, api.Rsh, api.Mod, api.Xor, api.Arsh}
	for range 1 + m.draw(5) {
		class := [...]uint8{api.Alu, api.Alu64}[m.draw(2)]
		m.add(api.Insn{Op: class | codes[m.draw(len(codes))]<<4, Dst: total, Imm: int32(m.draw(256)) - 64})
	}
}

func readContext(m *maker) {
	size := [...]uint8{one, half, word, long}[m.draw(4)]
	m.add(load(size, mine, context, int16(m.draw(api.CtxSize-7))), both(api.Xor, total, mine))
}

func useStack(m *maker) {
	off := int16(-8 * (1 + m.draw(8)))
	m.add(store(long, stack, total, off), put(one, stack, off+int16(m.draw(8)), int32(m.draw(256))))
	m.add(load(long, mine, stack, off), both(api.Add, total, mine))
}

func lookUp(m *maker) {
	size := m.maps[anArray].Value
	m.add(load(one, mine, context, int16(m.draw(api.CtxSize))), api.Insn{Op: api.Alu64 | api.And<<4, Dst: mine, Imm: 7})
	m.keyed(anArray, int32(m.draw(9)))
	m.add(call(api.HMapLookup))
	m.ifFound(func() {
		m.add(both(api.Add, 0, mine), load(one, other, 0, int16(m.draw(size-7))), both(api.Add, total, other))
		m.add(store(one, 0, total, int16(m.draw(size-7))))
	})
}

func update(m *maker) {
	m.add(store(long, stack, total, -16))
	m.keyed(aHash, int32(m.draw(9)))
	m.at(3, -16)
	m.add(set(4, int32(m.draw(4))), call(api.HMapUpdate), both(api.Add, total, 0))
}

func remove(m *maker) {
	m.keyed([...]int{aHash, timers}[m.draw(2)], int32(m.draw(9)))
	m.add(call(api.HMapDelete), both(api.Sub, total, 0))
}

func clock(m *maker) { m.add(call(api.HClock), both(api.Add, total, 0)) }

func random(m *maker) { m.add(call(api.HRandom), both(api.Xor, total, 0)) }

func tailCall(m *maker) {
	m.add(move(1, context))
	m.loadMap(2, aProgs)
	m.add(set(3, int32(m.draw(6))), call(api.HTailCall), both(api.Add, total, 0))
}

func loop(m *maker) {
	m.add(put(long, stack, -8, int32(m.draw(256))), set(1, int32(m.draw(40))))
	m.function(2, load(long, 3, 2, 0), both(api.Add, 3, 1), store(long, 2, 3, 0), set(0, 0), exit())
	m.at(3, -8)
	m.add(call(api.HLoop), both(api.Add, total, 0), load(long, mine, stack, -8), both(api.Xor, total, mine))
}

func output(m *maker) {
	m.add(store(long, stack, total, -8), store(long, stack, total, -16))
	m.loadMap(1, aRing)
	m.at(2, -16)
	m.add(set(3, int32(1+m.draw(16))), call(api.HRingOutput), both(api.Add, total, 0))
}

// reserve: a record that is written, and what becomes of it.
func reserve(m *maker, then int) {
	size := 8 + m.draw(56)
	m.loadMap(1, aRing)
	m.add(set(2, int32(size)), call(api.HRingReserve))
	m.ifFound(func() {
		m.add(store(long, 0, total, int16(m.draw(size-7))), move(1, 0), call(then))
	})
}

func submit(m *maker) { reserve(m, api.HRingSubmit) }

func discard(m *maker) { reserve(m, api.HRingDiscard) }

func query(m *maker) {
	m.loadMap(1, aRing)
	m.add(call(api.HRingQuery), both(api.Add, total, 0))
}

func findSocket(m *maker) {
	field := [...]int16{0, 4, 8, 16}[m.draw(4)]
	m.add(put(long, stack, -16, int32(m.draw(256))), put(long, stack, -8, 0), move(1, context))
	m.at(2, -16)
	m.add(set(3, api.TupleSize), call(api.HSockLookup))
	m.ifFound(func() {
		m.add(load(word, mine, 0, field), move(1, 0), call(api.HSockRelease), both(api.Add, total, mine))
	})
}

func startTimer(m *maker) {
	m.keyed(timers, int32(m.draw(3)))
	m.add(call(api.HMapLookup))
	m.ifFound(func() {
		m.add(move(mine, 0), move(1, mine))
		m.loadMap(2, timers)
		m.add(call(api.HTimerInit), move(1, mine))
		m.function(2, load(long, 0, 3, 16), plus(0, 1), store(long, 3, 0, 16), set(0, 0), exit())
		m.add(call(api.HTimerCallback), move(1, mine), set(2, int32(m.draw(100))), call(api.HTimerStart))
		if m.draw(2) == 0 {
			m.add(move(1, mine), call(api.HTimerCancel))
		}
		m.add(both(api.Add, total, 0))
	})
}

// dynptr: a ring's, that is written and asked, and what becomes of it.
func dynptr(m *maker, then int) {
	const at = -32
	m.add(store(long, stack, total, -8))
	m.loadMap(1, aRing)
	m.add(set(2, int32(16+m.draw(48))))
	m.at(3, at)
	m.add(call(api.HDynReserve))
	m.at(1, at)
	m.add(set(2, int32(m.draw(9))))
	m.at(3, -8)
	m.add(set(4, 8), call(api.HDynWrite), both(api.Add, total, 0))
	m.at(1, at)
	m.add(set(2, int32(m.draw(9))), set(3, 4), call(api.HDynData))
	m.ifFound(func() {
		m.add(load(word, mine, 0, 0), both(api.Add, total, mine), put(one, 0, int16(m.draw(4)), int32(m.draw(256))))
	})
	m.at(1, at)
	m.add(call(then))
}

func submitDyn(m *maker) { dynptr(m, api.HDynSubmit) }

func discardDyn(m *maker) { dynptr(m, api.HDynDiscard) }

// memoryDyn: a dynptr of a value. It keeps its place on the stack as long as the program runs.
func memoryDyn(m *maker) {
	m.tags += api.DynSize
	at := -128 - int32(m.tags)
	m.keyed(anArray, 0)
	m.add(call(api.HMapLookup))
	m.ifFound(func() {
		m.add(move(1, 0), plus(1, int32(m.draw(8))), set(2, 8))
		m.at(3, at)
		m.add(call(api.HDynMem), put(long, stack, -16, 0))
		m.at(1, -16)
		m.add(set(2, int32(1+m.draw(8))))
		m.at(3, at)
		m.add(set(4, int32(m.draw(9))), call(api.HDynRead), load(long, mine, stack, -16), both(api.Add, total, mine))
	})
}

func iterate(m *maker) {
	const at = -48
	m.at(1, at)
	m.add(set(2, int32(m.draw(20))), set(3, int32(m.draw(40))), call(api.HIterNew))
	again := len(m.l)
	m.at(1, at)
	m.add(call(api.HIterNext))
	m.ifFound(func() {
		m.add(load(word, mine, 0, 0), both(api.Add, total, mine))
		m.add(api.Insn{Op: api.Jmp | api.Ja<<4, Off: int16(again - len(m.l) - 1)})
	})
	m.at(1, at)
	m.add(call(api.HIterDrop))
}

func callSub(m *maker) {
	m.add(set(1, int32(m.draw(256))), move(2, total))
	m.sub(move(0, 1), both(api.Add, 0, 2), plus(0, int32(m.draw(256))), exit())
	m.add(both(api.Xor, total, 0))
}

// choose: a piece that is done only sometimes.
func choose(m *maker) {
	if m.deep > 2 {
		return
	}
	m.deep++
	codes := [...]uint8{api.Jeq, api.Jgt, api.Jset, api.Jne, api.Jsgt, api.Jlt, api.Jsle}
	m.over(api.Insn{Op: api.Jmp | codes[m.draw(len(codes))]<<4, Dst: total, Imm: int32(m.draw(256))}, m.piece)
	m.deep--
}
