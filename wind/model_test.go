package wind_test

import (
	"math/bits"
	"slices"
	"testing"

	"muntin/api"
	"muntin/asm"
	"muntin/inst"
	"muntin/mach"
	"muntin/wind"
)

// Where things are in the memory of the tests' machines, and numbers of registers that the chapter names.
const (
	overVector  = 272
	underVector = 288
	handlers    = 768
	code        = 1536
	frames      = 2048
	size        = frames + 40*64

	l0 = 16
	i0 = 24
	o6 = 14
	i6 = 30
)

// world is what can be seen of a machine. What the handlers do to it follows from the chapter's words alone.
type world struct {
	nw      int
	pc      uint32
	psr     api.Psr
	wim     uint32
	windows [32][16]uint32
	globals [17][8]uint32
	saved   [17][2]uint32
	memory  []uint32
	out     []uint32
	stop    api.Stop
}

func look(t *testing.T, m *mach.Machine) *world {
	t.Helper()
	w := &world{nw: m.File().NW(), pc: m.PC(), psr: m.Psr(), wim: m.Wim(), out: m.Out(), stop: m.Stop()}
	for window := range w.nw {
		for i := range 16 {
			w.windows[window][i], _ = m.File().Get(window, 0, l0+i)
		}
	}
	for bank := range 17 {
		for i := range 8 {
			w.globals[bank][i], _ = m.File().Get(0, bank, i)
		}
		w.saved[bank][0], w.saved[bank][1], _ = m.T(bank)
	}
	l, e := m.Mem().Words(0, m.Mem().Size()/4)
	if e != api.OK {
		t.Fatalf("Words = %d", e)
	}
	w.memory = l
	return w
}

func (w *world) copy() *world {
	c := *w
	c.memory, c.out = slices.Clone(w.memory), slices.Clone(w.out)
	return &c
}

// before is the window before one, and after the window after it.
func (w *world) before(window int) int { return (window + w.nw - 1) % w.nw }

func (w *world) after(window int) int { return (window + 1) % w.nw }

func (w *world) cwp() int { return int(w.psr.Cwp) }

// reg is where a register of a window is; what is written to the one of g0 is lost.
func (w *world) reg(window int, reg uint8) *uint32 {
	switch {
	case reg == 0:
		return new(uint32)
	case reg < 8:
		return &w.globals[w.psr.Bank][reg]
	case reg < 16:
		return &w.windows[w.before(window)][reg]
	}
	return &w.windows[window][reg-16]
}

// frame are the words of the memory from a window's o6 on.
func (w *world) frame(window int) []uint32 {
	at := *w.reg(window, o6) / 4
	return w.memory[at : at+16]
}

func (w *world) store(window int) { copy(w.frame(window), w.windows[window][:]) }

func (w *world) load(window int) { copy(w.windows[window][:], w.frame(window)) }

func (w *world) invalid() int { return bits.TrailingZeros32(w.wim) }

// overflow is the effect of the overflow handler.
func (w *world) overflow() {
	last := w.before(w.invalid())
	w.store(last)
	w.wim = 1 << last
}

// underflow is the effect of the underflow handler.
func (w *world) underflow() {
	next := w.after(w.cwp())
	w.load(next)
	w.wim = 1 << w.after(next)
}

// turn is what an OpSave or OpRestore does that does not trap.
func (w *world) turn(x api.Inst) {
	sum := *w.reg(w.cwp(), x.Rs1) + uint32(x.Imm)
	if !x.Is {
		sum = *w.reg(w.cwp(), x.Rs1) + *w.reg(w.cwp(), x.Rs2)
	}
	to := w.after(w.cwp())
	if x.Op == api.OpSave {
		to = w.before(w.cwp())
	}
	w.psr.Cwp = uint8(to)
	*w.reg(to, x.Rd) = sum
	w.pc += 4
}

// is compares two worlds, but for what a trap and its handler may change: the globals of the bank 16, its TPC and its TPSR.
func (w *world) is(t *testing.T, want *world, what string) {
	t.Helper()
	if w.pc != want.pc || w.psr != want.psr || w.wim != want.wim || w.stop != want.stop || !slices.Equal(w.out, want.out) {
		t.Fatalf("%s: PC %d, state %v, WIM %x, stop %v, output %x; want %d, %v, %x, %v, %x",
			what, w.pc, w.psr, w.wim, w.stop, w.out, want.pc, want.psr, want.wim, want.stop, want.out)
	}
	for i := range w.windows {
		if w.windows[i] != want.windows[i] {
			t.Fatalf("%s: the window %d is %x; want %x", what, i, w.windows[i], want.windows[i])
		}
	}
	for bank := range 16 {
		if w.globals[bank] != want.globals[bank] || w.saved[bank] != want.saved[bank] {
			t.Fatalf("%s: the bank %d has %x and %x; want %x and %x", what, bank, w.globals[bank], w.saved[bank], want.globals[bank], want.saved[bank])
		}
	}
	if len(w.memory) != len(want.memory) {
		t.Fatalf("%s: %d words; want %d", what, len(w.memory), len(want.memory))
	}
	for i, n := range w.memory {
		if n != want.memory[i] {
			t.Fatalf("%s: the word at %d is %x; want %x", what, 4*i, n, want.memory[i])
		}
	}
}

// isWhole compares the bank 16, too.
func (w *world) isWhole(t *testing.T, want *world, what string) {
	t.Helper()
	w.is(t, want, what)
	if w.globals != want.globals || w.saved != want.saved {
		t.Fatalf("%s: the bank 16 has %x and %x; want %x and %x", what, w.globals[16], w.saved[16], want.globals[16], want.saved[16])
	}
}

func ok(t *testing.T, e api.Errno) {
	t.Helper()
	if e != api.OK {
		t.Fatalf("%d; want OK", e)
	}
}

func words(t *testing.T, a *asm.Asm) []uint32 {
	t.Helper()
	l, e := a.Words()
	ok(t, e)
	return l
}

func word(t *testing.T, x api.Inst) uint32 {
	t.Helper()
	n, e := inst.Encode(x)
	ok(t, e)
	return n
}

// both returns a list with both handlers.
func both(t *testing.T, nw int) *asm.Asm {
	t.Helper()
	a := asm.New()
	ok(t, wind.Over(a, nw))
	ok(t, wind.Under(a, nw))
	return a
}

// machine returns a machine with a list of handlers, vectors that lead to them, and words elsewhere, and registers, of which hardly two are alike. No window has its frame yet.
func machine(t *testing.T, nw int, a *asm.Asm, bytes int) *mach.Machine {
	t.Helper()
	m, e := mach.New(nw, bytes)
	ok(t, e)
	for i := range bytes / 4 {
		ok(t, m.Mem().Store(uint32(4*i), 4, uint32(i+1)*0x9e3779b1))
	}
	for bank := range 17 {
		for i := range 8 {
			ok(t, m.File().Set(0, bank, i, uint32(bank<<8|i|1<<20)*0x85ebca6b))
		}
	}
	for window := range nw {
		for i := range 16 {
			ok(t, m.File().Set(window, 0, l0+i, uint32(window<<8|i|1<<21)*0xc2b2ae35))
		}
	}
	ok(t, m.Mem().Put(handlers, words(t, a)))
	vector(t, m, a, overVector, "over")
	vector(t, m, a, underVector, "under")
	return m
}

func vector(t *testing.T, m *mach.Machine, a *asm.Asm, at int, mark string) {
	t.Helper()
	to, e := a.At(mark)
	ok(t, e)
	ok(t, m.Mem().Store(uint32(at), 4, word(t, api.Inst{Op: api.OpBr, Is: true, Imm: int32((handlers-at)/4 + to)})))
}

// ready returns a machine with both handlers, of which each window has its frame.
func ready(t *testing.T, nw int) *mach.Machine {
	t.Helper()
	m := machine(t, nw, both(t, nw), size)
	setFrames(t, m)
	return m
}

// setFrames gives each window its frame: 32 of them have room, one behind the other, in an order that no number of windows is.
func setFrames(t *testing.T, m *mach.Machine) {
	t.Helper()
	for window := range m.File().NW() {
		setFrame(t, m, window, uint32(frames+64*(window*13%32)))
	}
}

func setFrame(t *testing.T, m *mach.Machine, window int, at uint32) {
	t.Helper()
	ok(t, m.File().Set(window, 0, o6, at))
}

// about has the machine execute an instruction, in a window, with a state of its own beside; the one that the instruction turns to is invalid.
func about(t *testing.T, m *mach.Machine, x api.Inst, window int) {
	t.Helper()
	nw := m.File().NW()
	ok(t, m.Mem().Store(code, 4, word(t, x)))
	ok(t, m.SetPC(code))
	ok(t, m.SetPsr(api.Psr{Cwp: uint8(window), Pil: uint8((window + nw) % 16), Flags: uint8((window*7 + nw) % 16)}))
	to := (window + 1) % nw
	if x.Op == api.OpSave {
		to = (window + nw - 1) % nw
	}
	ok(t, m.SetWim(1<<to))
}

func step(t *testing.T, m *mach.Machine) {
	t.Helper()
	if s := m.Step(0); s.Kind != api.StRun {
		t.Fatalf("at the PC %d: stop %v", m.PC(), s)
	}
}

// handled has the machine trap once, and its handler run to its end, and returns how many steps that were.
func handled(t *testing.T, m *mach.Machine, vector uint32) int {
	t.Helper()
	step(t, m)
	if m.PC() != vector || m.Psr().Bank != 16 {
		t.Fatalf("no trap: PC %d, state %v", m.PC(), m.Psr())
	}
	many := 1
	for m.Psr().Bank != 0 {
		if many > 60 {
			t.Fatalf("the handler does not come to its end: PC %d", m.PC())
		}
		step(t, m)
		many++
	}
	return many
}

// traps has the machine execute an instruction that traps, and compares it with what it must be: after the handler, and after the instruction that is executed again.
func traps(t *testing.T, m *mach.Machine, x api.Inst, what string) {
	t.Helper()
	want := look(t, m)
	vector := uint32(overVector)
	if x.Op == api.OpSave {
		want.overflow()
	} else {
		want.underflow()
		vector = underVector
	}
	many := handled(t, m, vector)
	look(t, m).is(t, want, what+", handled")
	want.turn(x)
	step(t, m)
	look(t, m).is(t, want, what+", executed again")
	if many+1 > 60 {
		t.Errorf("%s: %d steps; at most 60", what, many+1)
	}
}
