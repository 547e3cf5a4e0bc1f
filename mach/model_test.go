package mach_test

import (
	"slices"
	"testing"

	"muntin/api"
	"muntin/inst"
	"muntin/mach"
	"muntin/word"
)

// model is what a machine must be. It answers by the chapter's words, and those of layers 3 to 5; only instructions, and what the ALU does, are those of layers 1 and 2.
type model struct {
	nw           int
	locals, ins  [32][8]uint32
	globals      [17][8]uint32
	bytes        []byte
	pc           uint32
	psr          api.Psr
	invalid      uint8
	tpc, tpsr    [17]uint32
	choices, out []uint32
	stop         api.Stop
}

func newModel(nw, size int) *model {
	return &model{nw: nw, bytes: make([]byte, size), invalid: 1}
}

func (w *model) copy() *model {
	c := *w
	c.bytes, c.choices, c.out = slices.Clone(w.bytes), slices.Clone(w.choices), slices.Clone(w.out)
	return &c
}

func (w *model) before(window uint8) uint8 { return uint8((int(window) + w.nw - 1) % w.nw) }

func (w *model) after(window uint8) uint8 { return uint8((int(window) + 1) % w.nw) }

// at is where a register is; what is written to the one of g0 is lost.
func (w *model) at(window, bank, reg uint8) *uint32 {
	switch n := reg % 8; reg / 8 {
	case 0:
		if n == 0 {
			return new(uint32)
		}
		return &w.globals[bank][n]
	case 1:
		return &w.ins[w.before(window)][n]
	case 2:
		return &w.locals[window][n]
	default:
		return &w.ins[window][n]
	}
}

// reg is where a register is now.
func (w *model) reg(reg uint8) *uint32 { return w.at(w.psr.Cwp, w.psr.Bank, reg) }

func (w *model) wim() uint32 { return 1 << w.invalid }

func (w *model) state() uint32 {
	p := w.psr
	return uint32(p.Cwp) + 32*uint32(p.Pil) + 512*uint32(p.Bank) + 16384*uint32(p.Flags)
}

func stateOf(n uint32, nw int) (api.Psr, bool) {
	p := api.Psr{Cwp: uint8(n % 32), Pil: uint8(n / 32 % 16), Bank: uint8(n / 512 % 32), Flags: uint8(n / 16384 % 16)}
	return p, n < 1<<18 && int(p.Cwp) < nw && p.Bank <= 16
}

// has tells whether there is a byte (many is 1), or a word (many is 4).
func (w *model) has(addr uint32, many int) bool {
	return addr%uint32(many) == 0 && int64(addr)+int64(many) <= int64(len(w.bytes))
}

func (w *model) load(addr uint32, many int) uint32 {
	var n uint32
	for _, b := range w.bytes[addr : addr+uint32(many)] {
		n = n*256 + uint32(b)
	}
	return n
}

func (w *model) store(addr uint32, many int, n uint32) {
	for i := many - 1; i >= 0; i-- {
		w.bytes[int(addr)+i] = byte(n % 256)
		n /= 256
	}
}

func (w *model) trap(bank, kind uint8, pc uint32) {
	w.tpc[bank], w.tpsr[bank] = pc, w.state()
	w.psr.Bank = bank
	w.pc = 256 + 16*uint32(kind)
}

func (w *model) step(level uint8) {
	if w.stop.Kind != api.StRun {
		return
	}
	if level <= 15 && level > w.psr.Pil {
		w.trap(level, 16+level, w.pc)
		w.psr.Pil = level
		return
	}
	before := w.copy()
	if s := w.execute(); s.Kind != api.StRun {
		*w = *before
		w.stop = s
	}
}

var (
	running = api.Stop{Kind: api.StRun}
	failed  = api.Stop{Kind: api.StError}
)

func (w *model) execute() api.Stop {
	if !w.has(w.pc, 4) {
		return failed
	}
	x, is := inst.Decode(w.load(w.pc, 4))
	if !is {
		return failed
	}
	a, b := *w.reg(x.Rs1), uint32(x.Imm)
	if !x.Is {
		b = *w.reg(x.Rs2)
	}
	w.pc += 4
	return w.do(x, a, b)
}

// do is the chapter's table. The PC is increased already.
func (w *model) do(x api.Inst, a, b uint32) api.Stop {
	pc, many := w.pc-4, 4
	switch x.Op {
	default:
		n, is := word.Do(x.Op-1, a, b)
		if !is {
			return api.Stop{Kind: api.StFault, V: 1}
		}
		*w.reg(x.Rd) = n
	case api.OpSethi:
		*w.reg(x.Rd) = uint32(x.Imm) * 2048
	case api.OpCmp:
		w.psr.Flags = word.Flags(a, b)
	case api.OpBr:
		if word.Holds(x.Rd, w.psr.Flags) {
			w.pc = pc + 4*uint32(x.Imm)
		}
	case api.OpCall:
		*w.reg(15) = pc
		w.pc = pc + 4*uint32(x.Imm)
	case api.OpJmpl:
		*w.reg(x.Rd) = pc
		w.pc = a + b
	case api.OpSave, api.OpRestore:
		return w.turn(x, a+b)
	case api.OpLd, api.OpLdb, api.OpSt, api.OpStb:
		if x.Op == api.OpLdb || x.Op == api.OpStb {
			many = 1
		}
		if !w.has(a+b, many) {
			return failed
		}
		if x.Op == api.OpLd || x.Op == api.OpLdb {
			*w.reg(x.Rd) = w.load(a+b, many)
		} else {
			w.store(a+b, many, *w.reg(x.Rd))
		}
	case api.OpRdPsr:
		*w.reg(x.Rd) = w.state()
	case api.OpRdWim:
		*w.reg(x.Rd) = w.wim()
	case api.OpWrPsr, api.OpWrWim, api.OpRdT, api.OpWrT, api.OpRett, api.OpTrap:
		return w.doState(x, a, a+b)
	case api.OpChoice:
		*w.reg(x.Rd) = 0
		if len(w.choices) > 0 {
			*w.reg(x.Rd) = w.choices[0]
			w.choices = w.choices[1:]
		}
	case api.OpOut:
		w.out = append(w.out, a)
	case api.OpHalt:
		return api.Stop{Kind: api.StHalt, V: a}
	case api.OpFault:
		return api.Stop{Kind: api.StFault, V: uint32(x.Imm)}
	}
	return running
}

func (w *model) turn(x api.Inst, sum uint32) api.Stop {
	window, kind := w.before(w.psr.Cwp), uint8(1)
	if x.Op == api.OpRestore {
		window, kind = w.after(w.psr.Cwp), 2
	}
	if window != w.invalid {
		w.psr.Cwp = window
		*w.reg(x.Rd) = sum
		return running
	}
	if w.psr.Bank != 0 {
		return failed
	}
	w.trap(16, kind, w.pc-4)
	return running
}

func (w *model) doState(x api.Inst, a, sum uint32) api.Stop {
	bank := w.psr.Bank
	switch x.Op {
	case api.OpWrPsr:
		p, is := stateOf(sum, w.nw)
		if !is {
			return failed
		}
		w.psr = p
		return running
	case api.OpWrWim:
		for n := range w.nw {
			if sum == 1<<n {
				w.invalid = uint8(n)
				return running
			}
		}
		return failed
	case api.OpTrap:
		if bank != 0 {
			return failed
		}
		w.trap(16, uint8(x.Imm), w.pc)
		return running
	}
	if bank == 0 {
		return failed
	}
	place := &w.tpc[bank]
	if x.Imm == 1 {
		place = &w.tpsr[bank]
	}
	switch x.Op {
	case api.OpRdT:
		*w.reg(x.Rd) = *place
	case api.OpWrT:
		*place = a
	default:
		p, is := stateOf(w.tpsr[bank], w.nw)
		if !is {
			return failed
		}
		w.psr, w.pc = p, w.tpc[bank]
	}
	return running
}

func code(t *testing.T, x api.Inst) uint32 {
	t.Helper()
	n, e := inst.Encode(x)
	if e != api.OK {
		t.Fatalf("%v is not valid", x)
	}
	return n
}

func made(t *testing.T, nw, size int) *mach.Machine {
	t.Helper()
	m, e := mach.New(nw, size)
	if m == nil || e != api.OK {
		t.Fatalf("New(%d, %d) = %p, %d; want a machine", nw, size, m, e)
	}
	return m
}

// rig is a machine and its model. What is done to the one is done to the other.
type rig struct {
	t    *testing.T
	m    *mach.Machine
	want *model
}

func newRig(t *testing.T, nw, size int) *rig {
	t.Helper()
	return &rig{t, made(t, nw, size), newModel(nw, size)}
}

func (r *rig) copy() *rig { return &rig{r.t, r.m.Copy(), r.want.copy()} }

func (r *rig) ok(e api.Errno) {
	r.t.Helper()
	if e != api.OK {
		r.t.Fatalf("error %d; want OK", e)
	}
}

func (r *rig) setPC(pc uint32) {
	r.t.Helper()
	r.ok(r.m.SetPC(pc))
	r.want.pc = pc
}

func (r *rig) setPsr(p api.Psr) {
	r.t.Helper()
	r.ok(r.m.SetPsr(p))
	r.want.psr = p
}

func (r *rig) setInvalid(window uint8) {
	r.t.Helper()
	r.ok(r.m.SetWim(1 << window))
	r.want.invalid = window
}

// set sets a register in the current window and bank.
func (r *rig) set(reg uint8, n uint32) {
	r.t.Helper()
	p := r.want.psr
	r.ok(r.m.File().Set(int(p.Cwp), int(p.Bank), int(reg), n))
	*r.want.reg(reg) = n
}

func (r *rig) store(addr uint32, n uint32) {
	r.t.Helper()
	r.ok(r.m.Mem().Store(addr, 4, n))
	r.want.store(addr, 4, n)
}

func (r *rig) choose(l ...uint32) {
	r.t.Helper()
	r.ok(r.m.Choose(l))
	r.want.choices = slices.Clone(l)
}

// setT sets the TPC and the TPSR of the bank from 1 on, which only instructions can; then the PC and the state are as before.
func (r *rig) setT(bank uint8, pc, psr uint32) {
	r.t.Helper()
	wasPC, wasPsr, addr := r.want.pc, r.want.psr, uint32(len(r.want.bytes)-4)
	was := r.want.load(addr, 4)
	r.setPsr(api.Psr{Bank: bank, Pil: 15})
	g1 := *r.want.reg(1)
	for i, n := range []uint32{pc, psr} {
		r.set(1, n)
		r.store(addr, code(r.t, api.Inst{Op: api.OpWrT, Rs1: 1, Is: true, Imm: int32(i)}))
		r.setPC(addr)
		r.step(0)
	}
	r.set(1, g1)
	r.store(addr, was)
	r.setPsr(wasPsr)
	r.setPC(wasPC)
}

// step does a step of both.
func (r *rig) step(level uint8) {
	r.t.Helper()
	r.want.step(level)
	if s := r.m.Step(level); s != r.want.stop {
		r.t.Fatalf("Step(%d) = %v; want %v", level, s, r.want.stop)
	}
}

// does executes x at the PC. The model becomes what change, written out in the test, makes of it; the PC is increased by 4 ahead of that.
func (r *rig) does(x api.Inst, change func(w *model)) {
	r.t.Helper()
	r.store(r.want.pc, code(r.t, x))
	r.want.pc += 4
	change(r.want)
	if s := r.m.Step(0); s != r.want.stop {
		r.t.Fatalf("%v: the stop is %v; want %v", x, s, r.want.stop)
	}
	r.holds(x)
}

// stops executes x at the PC, which must change nothing but the stop.
func (r *rig) stops(x api.Inst, s api.Stop) {
	r.t.Helper()
	r.does(x, func(w *model) { w.pc, w.stop = w.pc-4, s })
}

// holds compares all that a caller can see of the machine with the model.
func (r *rig) holds(what any) {
	r.t.Helper()
	m, w := r.m, r.want
	if m.PC() != w.pc || m.Psr() != w.psr || m.Wim() != w.wim() || m.Stop() != w.stop {
		r.t.Fatalf("%v: PC %x, state %v, WIM %x, stop %v; want %x, %v, %x, %v", what, m.PC(), m.Psr(), m.Wim(), m.Stop(), w.pc, w.psr, w.wim(), w.stop)
	}
	if !slices.Equal(m.Out(), w.out) {
		r.t.Fatalf("%v: output %x; want %x", what, m.Out(), w.out)
	}
	for bank := 1; bank <= 16; bank++ {
		if pc, psr, e := m.T(bank); pc != w.tpc[bank] || psr != w.tpsr[bank] || e != api.OK {
			r.t.Fatalf("%v: T(%d) = %x, %x, %d; want %x, %x", what, bank, pc, psr, e, w.tpc[bank], w.tpsr[bank])
		}
	}
	r.holdsFile(what)
	r.holdsMem(what)
	r.holdsChoices(what)
}

func (r *rig) holdsFile(what any) {
	r.t.Helper()
	f, w := r.m.File(), r.want
	if f.NW() != w.nw {
		r.t.Fatalf("%v: %d windows; want %d", what, f.NW(), w.nw)
	}
	for window := range w.nw {
		for reg := 16; reg < 32; reg++ {
			r.holdsRegister(what, window, 0, reg)
		}
	}
	for bank := range 17 {
		for reg := range 8 {
			r.holdsRegister(what, 0, bank, reg)
		}
	}
}

func (r *rig) holdsRegister(what any, window, bank, reg int) {
	r.t.Helper()
	want := *r.want.at(uint8(window), uint8(bank), uint8(reg))
	if n, e := r.m.File().Get(window, bank, reg); n != want || e != api.OK {
		r.t.Fatalf("%v: the register %d of the window %d and the bank %d is %x, %d; want %x", what, reg, window, bank, n, e, want)
	}
}

func (r *rig) holdsMem(what any) {
	r.t.Helper()
	size := len(r.want.bytes)
	l, e := r.m.Mem().Words(0, size/4)
	if e != api.OK || r.m.Mem().Size() != size {
		r.t.Fatalf("%v: a memory of %d bytes; want %d", what, r.m.Mem().Size(), size)
	}
	for i, n := range l {
		if want := r.want.load(uint32(4*i), 4); n != want {
			r.t.Fatalf("%v: the word at %x is %x; want %x", what, 4*i, n, want)
		}
	}
}

// holdsChoices lets a copy take all choices, and two more: nobody can see them otherwise, or once the machine has stopped.
func (r *rig) holdsChoices(what any) {
	r.t.Helper()
	if r.want.stop.Kind != api.StRun || len(r.want.bytes) == 0 {
		return
	}
	c := r.m.Copy()
	r.ok(c.SetPsr(api.Psr{}))
	r.ok(c.Mem().Store(0, 4, code(r.t, api.Inst{Op: api.OpChoice, Rd: 1})))
	for i, want := range append(slices.Clone(r.want.choices), 0, 0) {
		r.ok(c.SetPC(0))
		c.Step(0)
		if n, e := c.File().Get(0, 0, 1); n != want || e != api.OK {
			r.t.Fatalf("%v: the choice %d is %x; want %x", what, i, n, want)
		}
	}
}

// filled returns a machine of which no two parts are alike: registers, words of the memory, TPCs and TPSRs, choices, output. It is at 256 in the window 2, the bank 0 and the level 5; the window 0 is invalid.
func filled(t *testing.T, nw, size int) *rig {
	t.Helper()
	r := newRig(t, nw, size)
	for bank := uint8(1); bank <= 16; bank++ {
		r.setT(bank, 0x10000000+uint32(bank), 0x20000000+uint32(bank))
	}
	r.set(1, 0x30000001)
	for i := range uint32(3) {
		r.store(4*i, code(t, api.Inst{Op: api.OpOut, Rs1: 1}))
		r.step(0)
		r.set(1, 0x30000002+i)
	}
	for i := range uint32(size / 4) {
		r.store(4*i, 0x40000001+0x01010101*i)
	}
	for window := range nw {
		for bank := range 17 {
			for reg := 1; reg < 32; reg++ {
				n := 0x80000000 + uint32(window<<16+bank<<8+reg)
				r.ok(r.m.File().Set(window, bank, reg, n))
				*r.want.at(uint8(window), uint8(bank), uint8(reg)) = n
			}
		}
	}
	r.choose(0x50000001, 0x50000002, 0x50000003)
	r.setPC(256)
	r.setPsr(api.Psr{Cwp: 2, Pil: 5, Flags: 9})
	r.setInvalid(0)
	r.holds("filled")
	return r
}
