package boot_test

import (
	"math/bits"
	"slices"
	"testing"

	"muntin/api"
	"muntin/inst"
	"muntin/mach"
)

// Where things are in the memory of the tests' machines, and numbers of registers that the chapters name.
const (
	blocks  = 64
	current = 128
	threads = 132
	limit   = 136
	code    = 2048
	frames  = 3072           // of the windows, 64 bytes each
	others  = frames + 40*64 // frames of threads that do not run
	size    = others + 4*64

	l0 = 16
	o6 = 14
	i6 = 30
)

// world is what can be seen of a machine. What the runtime does to it follows from the words of the chapters 8 to 11 alone.
type world struct {
	nw      int
	pc      uint32
	psr     api.Psr
	wim     uint32
	windows [32][16]uint32
	globals [17][8]uint32
	saved   [17][2]uint32
	memory  []uint32
	out     []uint32
	stop    api.Stop
}

func look(t *testing.T, m *mach.Machine) *world {
	t.Helper()
	w := &world{nw: m.File().NW(), pc: m.PC(), psr: m.Psr(), wim: m.Wim(), out: m.Out(), stop: m.Stop()}
	for window := range w.nw {
		l, e := m.File().Window(window)
		ok(t, e)
		copy(w.windows[window][:], l)
	}
	for bank := range 17 {
		for i := range 8 {
			w.globals[bank][i], _ = m.File().Get(0, bank, i)
		}
		w.saved[bank][0], w.saved[bank][1], _ = m.T(bank)
	}
	l, e := m.Mem().Words(0, m.Mem().Size()/4)
	ok(t, e)
	w.memory = l
	return w
}

func (w *world) cwp() int { return int(w.psr.Cwp) }

// before is the window before one, and after the window after it.
func (w *world) before(window int) int { return (window + w.nw - 1) % w.nw }

func (w *world) after(window int) int { return (window + 1) % w.nw }

func (w *world) invalid() int { return bits.TrailingZeros32(w.wim) }

// reg is where a register of the current window, in the bank 0, is.
func (w *world) reg(n uint8) *uint32 {
	switch {
	case n < 8:
		return &w.globals[0][n]
	case n < 16:
		return &w.windows[w.before(w.cwp())][n]
	}
	return &w.windows[w.cwp()][n-16]
}

func (w *world) set(n uint8, v uint32) {
	if n != 0 {
		*w.reg(n) = v
	}
}

// sp is where a window's o6 is: it is i6 of the window before.
func (w *world) sp(window int) *uint32 { return &w.windows[w.before(window)][14] }

// word is the word at an address.
func (w *world) word(at uint32) *uint32 { return &w.memory[at/4] }

// frame are the words of the memory from a window's o6 on.
func (w *world) frame(window int) []uint32 {
	at := *w.sp(window) / 4
	return w.memory[at : at+16]
}

func (w *world) store(window int) { copy(w.frame(window), w.windows[window][:]) }

func (w *world) load(window int) { copy(w.windows[window][:], w.frame(window)) }

// block is the address of a thread's block: PC, SP, limit, and whether it is alive.
func block(thread uint32) uint32 { return blocks + 16*thread }

// do is the effect of an instruction of a thread, with all that its trap brings about.
func (w *world) do(t *testing.T, x api.Inst, choice uint32) {
	t.Helper()
	switch x.Op {
	case api.OpSave:
		w.save(x)
	case api.OpRestore:
		w.restore(x)
	case api.OpTrap:
		if x.Imm == 3 {
			w.yield()
		} else {
			*w.word(block(*w.word(current)) + 12) = 0
		}
		w.goOn(choice)
	case api.OpAlu + api.AlAdd:
		w.set(x.Rd, w.sum(x))
		w.pc += 4
	default:
		t.Fatalf("%+v", x)
	}
}

func (w *world) sum(x api.Inst) uint32 {
	if x.Is {
		return *w.reg(x.Rs1) + uint32(x.Imm)
	}
	return *w.reg(x.Rs1) + *w.reg(x.Rs2)
}

// save is the effect of OpSave. If it traps, the window before the invalid one is stored, and becomes the invalid one.
func (w *world) save(x api.Inst) {
	if w.invalid() == w.before(w.cwp()) {
		last := w.before(w.invalid())
		w.store(last)
		w.wim = 1 << last
	}
	w.enter(w.before(w.cwp()), x)
}

// restore is the effect of OpRestore. If it traps, the next window is loaded, and the one after it becomes the invalid one.
func (w *world) restore(x api.Inst) {
	if next := w.after(w.cwp()); w.invalid() == next {
		w.load(next)
		w.wim = 1 << w.after(next)
	}
	w.enter(w.after(w.cwp()), x)
}

// enter makes a window the current one, with the sum in rd, as the operands were before.
func (w *world) enter(window int, x api.Inst) {
	n := w.sum(x)
	w.psr.Cwp = uint8(window)
	w.set(x.Rd, n)
	w.pc += 4
}

// yield is what OpTrap 3 does to the thread that runs.
func (w *world) yield() {
	for n, end := w.cwp(), w.invalid(); n != end; n = w.after(n) {
		w.store(n)
	}
	running := *w.word(current)
	*w.word(block(running)) = w.pc + 4
	*w.word(block(running) + 4) = *w.sp(w.cwp())
}

// alive are the threads that are alive, in increasing order.
func (w *world) alive() []uint32 {
	var l []uint32
	for thread := range *w.word(threads) {
		if *w.word(block(thread) + 12) == 1 {
			l = append(l, thread)
		}
	}
	return l
}

// goOn makes a thread the running one, and the current window its own. Of the others none is resident any more.
func (w *world) goOn(choice uint32) {
	l := w.alive()
	thread := l[uint64(choice)%uint64(len(l))]
	*w.word(current) = thread
	*w.word(limit) = *w.word(block(thread) + 8)
	*w.sp(w.cwp()) = *w.word(block(thread) + 4)
	w.wim = 1 << w.after(w.cwp())
	w.load(w.cwp())
	w.pc = *w.word(block(thread))
}

// begin is the effect of the start.
func (w *world) begin() {
	*w.word(limit) = *w.word(72)
	w.set(o6, *w.word(68))
	w.pc = *w.word(64)
}

// is compares two worlds, but for what a trap and its handler may change: the globals of the bank 16, its TPC and its TPSR.
func (w *world) is(t *testing.T, want *world, what string) {
	t.Helper()
	if w.pc != want.pc || w.psr != want.psr || w.wim != want.wim || w.stop != want.stop || !slices.Equal(w.out, want.out) {
		t.Fatalf("%s: PC %d, state %v, WIM %x, stop %v, output %x; want %d, %v, %x, %v, %x",
			what, w.pc, w.psr, w.wim, w.stop, w.out, want.pc, want.psr, want.wim, want.stop, want.out)
	}
	for i := range w.windows {
		if w.windows[i] != want.windows[i] {
			t.Fatalf("%s: the window %d is %x; want %x", what, i, w.windows[i], want.windows[i])
		}
	}
	for bank := range 16 {
		if w.globals[bank] != want.globals[bank] || w.saved[bank] != want.saved[bank] {
			t.Fatalf("%s: the bank %d has %x and %x; want %x and %x", what, bank, w.globals[bank], w.saved[bank], want.globals[bank], want.saved[bank])
		}
	}
	if len(w.memory) != len(want.memory) {
		t.Fatalf("%s: %d words; want %d", what, len(w.memory), len(want.memory))
	}
	for i, n := range w.memory {
		if n != want.memory[i] {
			t.Fatalf("%s: the word at %d is %x; want %x", what, 4*i, n, want.memory[i])
		}
	}
}

// rig is a machine that has a runtime, and is interrupted.
type rig struct {
	m     *mach.Machine
	many  [16]uint32    // interrupts of each level that were taken
	saved [16][2]uint32 // what the last of them must have saved
	steps int           // that were not interrupts
}

// step has the machine do a step with a level, which is counted if it is an interrupt. A level above 15 is none.
func (r *rig) step(t *testing.T, level uint8) {
	t.Helper()
	taken := level <= 15 && level > r.m.Psr().Pil
	if taken {
		p := r.m.Psr()
		r.many[level]++
		r.saved[level] = [2]uint32{r.m.PC(), uint32(p.Cwp) | uint32(p.Pil)<<5 | uint32(p.Bank)<<9 | uint32(p.Flags)<<14}
	} else {
		r.steps++
	}
	pc := r.m.PC()
	if s := r.m.Step(level); s.Kind != api.StRun && s.Kind != api.StHalt {
		t.Fatalf("at the PC %d, state %v: stop %v", pc, r.m.Psr(), s)
	}
	if p := r.m.Psr(); taken && (p.Pil != level || p.Bank != level || r.m.PC() != 512+16*uint32(level)) {
		t.Fatalf("no interrupt of the level %d: PC %d, state %v", level, r.m.PC(), p)
	}
}

// finish has the machine do steps until the instruction at the PC is done, and all handlers have returned. The levels of its steps are by level, those after the last 0.
func (r *rig) finish(t *testing.T, levels func(step int) uint8) {
	t.Helper()
	from := r.m.PC()
	most := 40*r.m.File().NW() + 140
	for n := 0; r.m.Psr().Bank != 0 || r.m.PC() == from; n++ {
		r.step(t, levels(n))
		// Six steps are those of an interrupt, and its handler, with the vector.
		taken := 0
		for _, many := range r.many {
			taken += int(many)
		}
		if r.steps > most+5*taken {
			t.Fatalf("no end: PC %d, state %v, %d interrupts", r.m.PC(), r.m.Psr(), taken)
		}
	}
}

// ticked returns a world with the interrupts that the machine took.
func (r *rig) ticked(w *world) *world {
	for level, n := range r.many {
		if n > 0 {
			w.memory[level] += n
			w.globals[level][1] = w.memory[level]
			w.saved[level] = r.saved[level]
		}
	}
	return w
}

func word(t *testing.T, x api.Inst) uint32 {
	t.Helper()
	n, e := inst.Encode(x)
	ok(t, e)
	return n
}

func setSP(t *testing.T, m *mach.Machine, window int, at uint32) {
	t.Helper()
	ok(t, m.File().Set(window, 0, o6, at))
}

// setThread sets the block of a thread.
func setThread(t *testing.T, m *mach.Machine, thread, pc, sp, limit, alive uint32) {
	t.Helper()
	ok(t, m.Mem().Put(block(thread), []uint32{pc, sp, limit, alive}))
}

// various returns a machine that has a runtime, and words elsewhere, and registers, of which hardly two are alike. Each window has its frame, and each of four threads another one; all of them are alive, and thread 0 runs.
func various(t *testing.T, nw, bytes int, runtime []uint32) *mach.Machine {
	t.Helper()
	m, e := mach.New(nw, bytes)
	ok(t, e)
	for i := range bytes / 4 {
		ok(t, m.Mem().Store(uint32(4*i), 4, uint32(i+1)*0x9e3779b1))
	}
	ok(t, m.Load(runtime))
	for bank := range 17 {
		for i := range 8 {
			ok(t, m.File().Set(0, bank, i, uint32(bank<<8|i|1<<20)*0x85ebca6b))
		}
	}
	for window := range nw {
		for i := range 16 {
			ok(t, m.File().Set(window, 0, l0+i, uint32(window<<8|i|1<<21)*0xc2b2ae35))
		}
	}
	for window := range nw {
		// 32 frames have room, one behind the other, in an order that no number of windows is.
		setSP(t, m, window, uint32(frames+64*(window*13%32)))
	}
	for level := range uint32(15) {
		ok(t, m.Mem().Store(4*(level+1), 4, level*0x11111111))
	}
	for thread := range uint32(4) {
		setThread(t, m, thread, code+0x100*(thread+1), others+64*thread, 0x7000+thread, 1)
	}
	ok(t, m.Mem().Put(current, []uint32{0, 4, 0x6000}))
	return m
}
