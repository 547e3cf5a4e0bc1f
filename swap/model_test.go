package swap_test

import (
	"math/bits"
	"slices"
	"testing"

	"muntin/api"
	"muntin/asm"
	"muntin/inst"
	"muntin/mach"
	"muntin/swap"
)

// Where things are in the memory of the tests' machines, and numbers of registers that the chapter names.
const (
	blocks   = 64
	current  = 128
	threads  = 132
	limit    = 136
	vectors  = 256
	handlers = 768
	code     = 2048
	frames   = 3072           // of the windows, 64 bytes each
	others   = frames + 40*64 // frames of threads that do not run
	size     = others + 4*64

	l0 = 16
	o6 = 14
	i6 = 30

	rett = 0x80000000
)

// world is what can be seen of a machine. What the handlers do to it follows from the chapter's words alone.
type world struct {
	nw      int
	pc      uint32
	psr     api.Psr
	wim     uint32
	windows [32][16]uint32
	globals [17][8]uint32
	saved   [17][2]uint32
	memory  []uint32
	out     []uint32
	stop    api.Stop
}

func look(t *testing.T, m *mach.Machine) *world {
	t.Helper()
	w := &world{nw: m.File().NW(), pc: m.PC(), psr: m.Psr(), wim: m.Wim(), out: m.Out(), stop: m.Stop()}
	for window := range w.nw {
		l, e := m.File().Window(window)
		ok(t, e)
		copy(w.windows[window][:], l)
	}
	for bank := range 17 {
		for i := range 8 {
			w.globals[bank][i], _ = m.File().Get(0, bank, i)
		}
		w.saved[bank][0], w.saved[bank][1], _ = m.T(bank)
	}
	l, e := m.Mem().Words(0, m.Mem().Size()/4)
	ok(t, e)
	w.memory = l
	return w
}

func (w *world) cwp() int { return int(w.psr.Cwp) }

// before is the window before one, and after the window after it.
func (w *world) before(window int) int { return (window + w.nw - 1) % w.nw }

func (w *world) after(window int) int { return (window + 1) % w.nw }

// sp is where a window's o6 is: it is i6 of the window before.
func (w *world) sp(window int) *uint32 { return &w.windows[w.before(window)][14] }

// word is the word at an address.
func (w *world) word(at uint32) *uint32 { return &w.memory[at/4] }

// frame are the words of the memory from a window's o6 on.
func (w *world) frame(window int) []uint32 {
	at := *w.sp(window) / 4
	return w.memory[at : at+16]
}

// resident are the resident windows of the current one.
func (w *world) resident() []int {
	var l []int
	for n, end := w.cwp(), bits.TrailingZeros32(w.wim); n != end; n = w.after(n) {
		l = append(l, n)
	}
	return l
}

// block is the address of a thread's block: PC, SP, limit, and whether it is alive.
func block(thread uint32) uint32 { return blocks + 16*thread }

// yield is the effect of OpTrap 3 at the PC.
func (w *world) yield(choice uint32) {
	for _, window := range w.resident() {
		copy(w.frame(window), w.windows[window][:])
	}
	running := *w.word(current)
	*w.word(block(running)) = w.pc + 4
	*w.word(block(running) + 4) = *w.sp(w.cwp())
	w.goOn(choice)
}

// end is the effect of OpTrap 4.
func (w *world) end(choice uint32) {
	*w.word(block(*w.word(current)) + 12) = 0
	w.goOn(choice)
}

// alive are the threads that are alive, in increasing order.
func (w *world) alive() []uint32 {
	var l []uint32
	for thread := range *w.word(threads) {
		if *w.word(block(thread) + 12) == 1 {
			l = append(l, thread)
		}
	}
	return l
}

// goOn makes a thread the running one, and the current window its own. Of the others none is resident any more.
func (w *world) goOn(choice uint32) {
	l := w.alive()
	thread := l[uint64(choice)%uint64(len(l))]
	*w.word(current) = thread
	*w.word(limit) = *w.word(block(thread) + 8)
	*w.sp(w.cwp()) = *w.word(block(thread) + 4)
	w.wim = 1 << w.after(w.cwp())
	copy(w.windows[w.cwp()][:], w.frame(w.cwp()))
	w.pc = *w.word(block(thread))
}

// is compares two worlds, but for what a trap and its handler may change: the globals of the bank 16, its TPC and its TPSR.
func (w *world) is(t *testing.T, want *world, what string) {
	t.Helper()
	if w.pc != want.pc || w.psr != want.psr || w.wim != want.wim || w.stop != want.stop || !slices.Equal(w.out, want.out) {
		t.Fatalf("%s: PC %d, state %v, WIM %x, stop %v, output %x; want %d, %v, %x, %v, %x",
			what, w.pc, w.psr, w.wim, w.stop, w.out, want.pc, want.psr, want.wim, want.stop, want.out)
	}
	for i := range w.windows {
		if w.windows[i] != want.windows[i] {
			t.Fatalf("%s: the window %d is %x; want %x", what, i, w.windows[i], want.windows[i])
		}
	}
	for bank := range 16 {
		if w.globals[bank] != want.globals[bank] || w.saved[bank] != want.saved[bank] {
			t.Fatalf("%s: the bank %d has %x and %x; want %x and %x", what, bank, w.globals[bank], w.saved[bank], want.globals[bank], want.saved[bank])
		}
	}
	if len(w.memory) != len(want.memory) {
		t.Fatalf("%s: %d words; want %d", what, len(w.memory), len(want.memory))
	}
	for i, n := range w.memory {
		if n != want.memory[i] {
			t.Fatalf("%s: the word at %d is %x; want %x", what, 4*i, n, want.memory[i])
		}
	}
}

func ok(t *testing.T, e api.Errno) {
	t.Helper()
	if e != api.OK {
		t.Fatalf("%d; want OK", e)
	}
}

func words(t *testing.T, a *asm.Asm) []uint32 {
	t.Helper()
	l, e := a.Words()
	ok(t, e)
	return l
}

func word(t *testing.T, x api.Inst) uint32 {
	t.Helper()
	n, e := inst.Encode(x)
	ok(t, e)
	return n
}

// both returns a list with both handlers.
func both(t *testing.T, nw int) *asm.Asm {
	t.Helper()
	a := asm.New()
	ok(t, swap.All(a, nw))
	return a
}

// filled returns a list that has instructions, marks and jumps.
func filled(t *testing.T) *asm.Asm {
	t.Helper()
	a := asm.New()
	ok(t, a.Mark("first"))
	ok(t, a.Put(api.Inst{Op: api.OpRett}, api.Inst{Op: api.OpOut, Rs1: 1}))
	ok(t, a.Jump(api.CoNe, "first"))
	ok(t, a.Call("last"))
	ok(t, a.Mark("last"))
	return a
}

// machine returns a machine with a list of handlers, vectors that lead to them, and words elsewhere, and registers, of which hardly two are alike. Each window has its frame, and each of four threads another one; all of them are alive, and thread 0 runs.
func machine(t *testing.T, nw int, a *asm.Asm, bytes int) *mach.Machine {
	t.Helper()
	m, e := mach.New(nw, bytes)
	ok(t, e)
	for i := range bytes / 4 {
		ok(t, m.Mem().Store(uint32(4*i), 4, uint32(i+1)*0x9e3779b1))
	}
	for bank := range 17 {
		for i := range 8 {
			ok(t, m.File().Set(0, bank, i, uint32(bank<<8|i|1<<20)*0x85ebca6b))
		}
	}
	for window := range nw {
		for i := range 16 {
			ok(t, m.File().Set(window, 0, l0+i, uint32(window<<8|i|1<<21)*0xc2b2ae35))
		}
	}
	for window := range nw {
		// 32 frames have room, one behind the other, in an order that no number of windows is.
		setSP(t, m, window, uint32(frames+64*(window*13%32)))
	}
	ok(t, m.Mem().Put(handlers, words(t, a)))
	vector(t, m, a, 3, "yield")
	vector(t, m, a, 4, "end")
	for thread := range uint32(4) {
		setThread(t, m, thread, code+0x100*(thread+1), others+64*thread, 0x7000+thread, 1)
	}
	setRunning(t, m, 0, 4)
	return m
}

func vector(t *testing.T, m *mach.Machine, a *asm.Asm, kind int, mark string) {
	t.Helper()
	to, e := a.At(mark)
	ok(t, e)
	at := vectors + 16*kind
	ok(t, m.Mem().Store(uint32(at), 4, word(t, api.Inst{Op: api.OpBr, Is: true, Imm: int32((handlers-at)/4 + to)})))
}

// ready returns a machine with both handlers.
func ready(t *testing.T, nw int) *mach.Machine {
	t.Helper()
	return machine(t, nw, both(t, nw), size)
}

func setSP(t *testing.T, m *mach.Machine, window int, at uint32) {
	t.Helper()
	ok(t, m.File().Set(window, 0, o6, at))
}

// setThread sets the block of a thread.
func setThread(t *testing.T, m *mach.Machine, thread, pc, sp, limit, alive uint32) {
	t.Helper()
	ok(t, m.Mem().Put(block(thread), []uint32{pc, sp, limit, alive}))
}

// setAlive says of the four threads whether they are alive, the lowest bit for thread 0.
func setAlive(t *testing.T, m *mach.Machine, set int) {
	t.Helper()
	for thread := range uint32(4) {
		ok(t, m.Mem().Store(block(thread)+12, 4, uint32(set)>>thread&1))
	}
}

// setRunning says which thread runs, of how many.
func setRunning(t *testing.T, m *mach.Machine, thread, many uint32) {
	t.Helper()
	ok(t, m.Mem().Put(current, []uint32{thread, many}))
}

// about has the machine execute an OpTrap, in a window, with a state of its own beside, if another one is invalid.
func about(t *testing.T, m *mach.Machine, kind, window, invalid int) {
	t.Helper()
	nw := m.File().NW()
	ok(t, m.Mem().Store(code, 4, word(t, api.Inst{Op: api.OpTrap, Is: true, Imm: int32(kind)})))
	ok(t, m.SetPC(code))
	ok(t, m.SetPsr(api.Psr{Cwp: uint8(window), Pil: uint8((window + nw) % 16), Flags: uint8((window*7 + nw + invalid) % 16)}))
	ok(t, m.SetWim(1<<invalid))
}

func step(t *testing.T, m *mach.Machine) {
	t.Helper()
	if s := m.Step(0); s.Kind != api.StRun {
		t.Fatalf("at the PC %d: stop %v", m.PC(), s)
	}
}

// most is how many steps there are at most.
func most(nw int) int { return 40*nw + 140 }

// handled has the machine trap, and its handler run to its end, within the steps that there are at most.
func handled(t *testing.T, m *mach.Machine, kind int) {
	t.Helper()
	step(t, m)
	if m.PC() != uint32(vectors+16*kind) || m.Psr().Bank != 16 {
		t.Fatalf("no trap: PC %d, state %v", m.PC(), m.Psr())
	}
	for many := 1; m.Psr().Bank != 0; many++ {
		// Not by step, as its Helper takes longer than the machine.
		if s := m.Step(0); s.Kind != api.StRun || many == most(m.File().NW()) {
			t.Fatalf("after %d steps of the handler at the PC %d: stop %v", many, m.PC(), s)
		}
	}
}

// expected is what the trap that the machine is about to take makes of it.
func expected(t *testing.T, m *mach.Machine, kind int, choice uint32) *world {
	t.Helper()
	want := look(t, m)
	if kind == 3 {
		want.yield(choice)
	} else {
		want.end(choice)
	}
	return want
}

// traps has the machine trap, with a choice, and compares it with what it must be.
func traps(t *testing.T, m *mach.Machine, kind int, choice uint32, what string) {
	t.Helper()
	ok(t, m.Choose([]uint32{choice, ^choice}))
	want := expected(t, m, kind, choice)
	handled(t, m, kind)
	look(t, m).is(t, want, what)
}
