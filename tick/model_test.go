package tick_test

import (
	"slices"
	"testing"

	"muntin/api"
	"muntin/asm"
	"muntin/inst"
	"muntin/mach"
	"muntin/tick"
)

// Where things are in the memory of the tests' machines.
const (
	vectors  = 528 // of the level 1; 16 bytes for each level
	handlers = 768
	code     = 1536
	frames   = 2048
	size     = frames + 40*64

	l0 = 16
	o6 = 14
)

// world is what can be seen of a machine. What an interrupt and its handler do to it follows from the chapter's words alone.
type world struct {
	nw      int
	pc      uint32
	psr     api.Psr
	wim     uint32
	windows [32][16]uint32
	globals [17][8]uint32
	saved   [17][2]uint32
	memory  []uint32
	out     []uint32
	stop    api.Stop
}

func look(t *testing.T, m *mach.Machine) *world {
	t.Helper()
	w := &world{nw: m.File().NW(), pc: m.PC(), psr: m.Psr(), wim: m.Wim(), out: m.Out(), stop: m.Stop()}
	for window := range w.nw {
		for i := range 16 {
			w.windows[window][i], _ = m.File().Get(window, 0, l0+i)
		}
	}
	for bank := range 17 {
		for i := range 8 {
			w.globals[bank][i], _ = m.File().Get(0, bank, i)
		}
		w.saved[bank][0], w.saved[bank][1], _ = m.T(bank)
	}
	l, e := m.Mem().Words(0, m.Mem().Size()/4)
	ok(t, e)
	w.memory = l
	return w
}

// state is the word of a state: 5 bits of Cwp, 4 of Pil, 5 of Bank, 4 of Flags.
func state(p api.Psr) uint32 {
	return uint32(p.Cwp) | uint32(p.Pil)<<5 | uint32(p.Bank)<<9 | uint32(p.Flags)<<14
}

// interrupt is what an interrupt of a level and its handler do: the ticks, g1 of the bank, its TPC and its TPSR.
func (w *world) interrupt(level int) {
	w.memory[level]++
	w.globals[level][1] = w.memory[level]
	w.saved[level] = [2]uint32{w.pc, state(w.psr)}
}

// is compares two worlds, in all that they have.
func (w *world) is(t *testing.T, want *world, what string) {
	t.Helper()
	if w.pc != want.pc || w.psr != want.psr || w.wim != want.wim || w.stop != want.stop || !slices.Equal(w.out, want.out) {
		t.Fatalf("%s: PC %d, state %v, WIM %x, stop %v, output %x; want %d, %v, %x, %v, %x",
			what, w.pc, w.psr, w.wim, w.stop, w.out, want.pc, want.psr, want.wim, want.stop, want.out)
	}
	for i := range w.windows {
		if w.windows[i] != want.windows[i] {
			t.Fatalf("%s: the window %d is %x; want %x", what, i, w.windows[i], want.windows[i])
		}
	}
	for bank := range 17 {
		if w.globals[bank] != want.globals[bank] || w.saved[bank] != want.saved[bank] {
			t.Fatalf("%s: the bank %d has %x and %x; want %x and %x", what, bank, w.globals[bank], w.saved[bank], want.globals[bank], want.saved[bank])
		}
	}
	if len(w.memory) != len(want.memory) {
		t.Fatalf("%s: %d words; want %d", what, len(w.memory), len(want.memory))
	}
	for i, n := range w.memory {
		if n != want.memory[i] {
			t.Fatalf("%s: the word at %d is %x; want %x", what, 4*i, n, want.memory[i])
		}
	}
}

func ok(t *testing.T, e api.Errno) {
	t.Helper()
	if e != api.OK {
		t.Fatalf("%d; want OK", e)
	}
}

func words(t *testing.T, a *asm.Asm) []uint32 {
	t.Helper()
	l, e := a.Words()
	ok(t, e)
	return l
}

func word(t *testing.T, x api.Inst) uint32 {
	t.Helper()
	n, e := inst.Encode(x)
	ok(t, e)
	return n
}

// all returns a list with the handlers of all levels.
func all(t *testing.T) *asm.Asm {
	t.Helper()
	a := asm.New()
	ok(t, tick.All(a))
	return a
}

// filled returns a list that has instructions, marks and jumps.
func filled(t *testing.T) *asm.Asm {
	t.Helper()
	a := asm.New()
	ok(t, a.Mark("first"))
	ok(t, a.Put(api.Inst{Op: api.OpRett}, api.Inst{Op: api.OpOut, Rs1: 1}))
	ok(t, a.Jump(api.CoNe, "first"))
	ok(t, a.Call("last"))
	ok(t, a.Mark("last"))
	return a
}

// various returns a machine with words everywhere, and registers, of which hardly two are alike.
func various(t *testing.T, nw, bytes int) *mach.Machine {
	t.Helper()
	m, e := mach.New(nw, bytes)
	ok(t, e)
	for i := range bytes / 4 {
		ok(t, m.Mem().Store(uint32(4*i), 4, uint32(i+1)*0x9e3779b1))
	}
	for bank := range 17 {
		for i := range 8 {
			ok(t, m.File().Set(0, bank, i, uint32(bank<<8|i|1<<20)*0x85ebca6b))
		}
	}
	for window := range nw {
		for i := range 16 {
			ok(t, m.File().Set(window, 0, l0+i, uint32(window<<8|i|1<<21)*0xc2b2ae35))
		}
	}
	return m
}

// lay stores a list with the handlers of all levels at 768, and vectors that lead to them.
func lay(t *testing.T, m *mach.Machine, a *asm.Asm) {
	t.Helper()
	ok(t, m.Mem().Put(handlers, words(t, a)))
	for level := 1; level <= 15; level++ {
		vector(t, m, a, vectorOf(level), tick.Name(level))
	}
}

func vectorOf(level int) int { return vectors + 16*(level-1) }

func vector(t *testing.T, m *mach.Machine, a *asm.Asm, at int, mark string) {
	t.Helper()
	to, e := a.At(mark)
	ok(t, e)
	ok(t, m.Mem().Store(uint32(at), 4, word(t, api.Inst{Op: api.OpBr, Is: true, Imm: int32((handlers-at)/4 + to)})))
}

// ready returns a machine with all handlers, in the bank 0, at the PC code.
func ready(t *testing.T, nw int) *mach.Machine {
	t.Helper()
	m := various(t, nw, size)
	lay(t, m, all(t))
	ok(t, m.SetPC(code))
	return m
}

// handlerSteps are those of an interrupt's handler: the jump in the vector, and four instructions.
const handlerSteps = 5

// handled has a machine be interrupted, runs the handler, and compares the machine with what it must be.
func handled(t *testing.T, m *mach.Machine, level int, what string) {
	t.Helper()
	want := look(t, m)
	want.interrupt(level)
	m.Step(uint8(level))
	if m.PC() != uint32(vectorOf(level)) || int(m.Psr().Bank) != level {
		t.Fatalf("%s: no interrupt: PC %d, state %v", what, m.PC(), m.Psr())
	}
	for range handlerSteps {
		m.Step(0)
	}
	look(t, m).is(t, want, what)
}
