package wind_test

import (
	"fmt"
	"slices"
	"testing"

	"muntin/api"
	"muntin/asm"
	"muntin/mach"
	"muntin/wind"
)

// The chapter's examples: three windows, a SAVE in the window 0, and a RESTORE in the window 2.
func TestExamples(t *testing.T) {
	m := ready(t, 3)
	about(t, m, api.Inst{Op: api.OpSave}, 0)
	at, _ := m.File().Get(1, 0, o6)
	own, _ := m.File().Window(1)
	handled(t, m, overVector)
	if l, _ := m.Mem().Words(at, 16); !slices.Equal(l, own) || m.Wim() != 1<<1 || m.PC() != code || m.Psr().Cwp != 0 {
		t.Errorf("stored %x, WIM %x, PC %d, state %v; want %x, 2", l, m.Wim(), m.PC(), m.Psr(), own)
	}
	step(t, m)
	if m.Psr().Cwp != 2 || m.PC() != code+4 {
		t.Errorf("PC %d, state %v; want %d, Cwp 2", m.PC(), m.Psr(), code+4)
	}

	m = ready(t, 3)
	about(t, m, api.Inst{Op: api.OpRestore}, 2)
	at, _ = m.File().Get(2, 0, i6)
	frame, _ := m.Mem().Words(at, 16)
	handled(t, m, underVector)
	if l, _ := m.File().Window(0); !slices.Equal(l, frame) || m.Wim() != 1<<1 || m.PC() != code || m.Psr().Cwp != 2 {
		t.Errorf("loaded %x, WIM %x, PC %d, state %v; want %x, 2", l, m.Wim(), m.PC(), m.Psr(), frame)
	}
	step(t, m)
	if m.Psr().Cwp != 0 || m.PC() != code+4 {
		t.Errorf("PC %d, state %v; want %d, Cwp 0", m.PC(), m.Psr(), code+4)
	}
}

// eachWindow calls f with a machine, for all numbers of windows, and all of their windows.
func eachWindow(t *testing.T, f func(m *mach.Machine, nw, window int)) {
	t.Helper()
	for nw := 2; nw <= 32; nw++ {
		base := ready(t, nw)
		for window := range nw {
			f(base.Copy(), nw, window)
		}
	}
}

// P8.3: all numbers of windows, all current windows, both traps: everything that a machine has, against the model.
func TestAllWindows(t *testing.T) {
	eachWindow(t, func(base *mach.Machine, nw, window int) {
		for _, op := range []uint8{api.OpSave, api.OpRestore} {
			m, x := base.Copy(), api.Inst{Op: op}
			about(t, m, x, window)
			traps(t, m, x, fmt.Sprintf("Op %d in the window %d of %d", op, window, nw))
		}
	})
}

// P8.3: which window is stored, and where each of its words is, without the model: l0 to l7, then i0 to i7, from o6 on.
func TestStoredWords(t *testing.T) {
	eachWindow(t, func(m *mach.Machine, nw, window int) {
		about(t, m, api.Inst{Op: api.OpSave}, window)
		last := (window + 2*nw - 2) % nw
		ok(t, m.File().Set(last, 0, o6, frames+1024))
		var want []uint32
		for _, reg := range []int{16, 17, 18, 19, 20, 21, 22, 23, 24, 25, 26, 27, 28, 29, 30, 31} {
			n, e := m.File().Get(last, 0, reg)
			ok(t, e)
			want = append(want, n)
		}
		handled(t, m, overVector)
		for i, n := range want {
			if got, e := m.Mem().Load(uint32(frames+1024+4*i), 4); got != n || e != api.OK {
				t.Fatalf("window %d of %d: the word %d is %x; want %x", window, nw, i, got, n)
			}
		}
		if m.Wim() != 1<<last {
			t.Fatalf("window %d of %d: WIM %x; want %x", window, nw, m.Wim(), 1<<last)
		}
	})
}

// P8.3: which window is loaded, and from where, without the model.
func TestLoadedWords(t *testing.T) {
	eachWindow(t, func(m *mach.Machine, nw, window int) {
		about(t, m, api.Inst{Op: api.OpRestore}, window)
		ok(t, m.File().Set(window, 0, i6, frames+1024))
		for i := range 16 {
			ok(t, m.Mem().Store(uint32(frames+1024+4*i), 4, uint32(0x5000+i)))
		}
		handled(t, m, underVector)
		next := (window + 1) % nw
		for i, reg := range []int{16, 17, 18, 19, 20, 21, 22, 23, 24, 25, 26, 27, 28, 29, 30, 31} {
			if got, e := m.File().Get(next, 0, reg); got != uint32(0x5000+i) || e != api.OK {
				t.Fatalf("window %d of %d: the register %d is %x; want %x", window, nw, reg, got, 0x5000+i)
			}
		}
		if want := uint32(1) << ((window + 2) % nw); m.Wim() != want {
			t.Fatalf("window %d of %d: WIM %x; want %x", window, nw, m.Wim(), want)
		}
	})
}

// turns are instructions that trap, with operands of all kinds: as they are before the trap they are after it, too.
func turns(op uint8) []api.Inst {
	l := []api.Inst{
		{Op: op, Rd: o6, Rs1: o6, Is: true, Imm: -96},
		{Op: op, Rd: 8, Rs1: 24, Rs2: 16},
		{Op: op, Rd: 23, Rs1: 15, Rs2: 1},
		{Op: op, Rd: 1, Rs1: 1, Is: true, Imm: -1 << 14},
		{Op: op, Rd: i6, Rs1: 0, Is: true, Imm: 1<<14 - 1},
		{Op: op, Rs1: 31, Rs2: 31},
	}
	for reg := range uint8(32) {
		l = append(l, api.Inst{Op: op, Rd: reg, Rs1: 31 - reg, Rs2: reg})
	}
	return l
}

// P8.3: the instruction that is executed again has the effect that it would have had, whatever its operands.
func TestOperands(t *testing.T) {
	for _, nw := range []int{2, 3, 4, 8, 32} {
		base := ready(t, nw)
		for _, window := range []int{0, 1, nw - 1} {
			for _, x := range slices.Concat(turns(api.OpSave), turns(api.OpRestore)) {
				m := base.Copy()
				about(t, m, x, window)
				traps(t, m, x, fmt.Sprintf("%v in the window %d of %d", x, window, nw))
			}
		}
	}
}

// P8.3: all flags and all levels of Pil are as they were.
func TestStates(t *testing.T) {
	for _, nw := range []int{2, 3, 32} {
		base := ready(t, nw)
		for n := range 256 {
			for _, op := range []uint8{api.OpSave, api.OpRestore} {
				m := base.Copy()
				x := api.Inst{Op: op}
				about(t, m, x, nw-1)
				ok(t, m.SetPsr(api.Psr{Cwp: uint8(nw - 1), Pil: uint8(n / 16), Flags: uint8(n % 16)}))
				traps(t, m, x, fmt.Sprintf("Pil %d and the flags %d, of %d windows", n/16, n%16, nw))
			}
		}
	}
}

// P8.3: whatever the globals of the bank 16 are.
func TestGlobals(t *testing.T) {
	for _, nw := range []int{2, 3, 32} {
		base := ready(t, nw)
		for _, n := range []uint32{0, 1, 31, 32, 0x7fffffff, 0x80000000, 0xffffffff} {
			for _, op := range []uint8{api.OpSave, api.OpRestore} {
				m := base.Copy()
				for i := range 8 {
					ok(t, m.File().Set(0, 16, i, n))
				}
				x := api.Inst{Op: op}
				about(t, m, x, 0)
				traps(t, m, x, fmt.Sprintf("globals %x, of %d windows", n, nw))
			}
		}
	}
}

// P8.1, P8.3: the handlers work in either order, in a copy, and behind other instructions.
func TestHandlersAnywhere(t *testing.T) {
	for _, nw := range []int{2, 3, 8, 32} {
		underFirst := asm.New()
		ok(t, wind.Under(underFirst, nw))
		ok(t, wind.Over(underFirst, nw))
		behind := filled(t)
		ok(t, wind.Under(behind, nw))
		ok(t, behind.Put(api.Inst{Op: api.OpFault, Is: true, Imm: 3}))
		ok(t, wind.Over(behind, nw))
		for i, a := range []*asm.Asm{underFirst, behind, underFirst.Copy()} {
			base := machine(t, nw, a, size)
			setFrames(t, base)
			for window := range nw {
				for _, op := range []uint8{api.OpSave, api.OpRestore} {
					m := base.Copy()
					x := api.Inst{Op: op, Rd: 1, Rs1: 2, Rs2: 3}
					about(t, m, x, window)
					traps(t, m, x, fmt.Sprintf("the list %d, Op %d in the window %d of %d", i, op, window, nw))
				}
			}
		}
	}
}

// P8.3: frames at both edges of the memory, and at multiples of 4 that are not multiples of 64; no word beside them is touched.
func TestPlacesOfFrames(t *testing.T) {
	for _, nw := range []int{2, 3, 8, 32} {
		for _, bytes := range []int{size, size + 4, 1 << 13} {
			base := machine(t, nw, both(t, nw), bytes)
			setFrames(t, base)
			places := []uint32{0, 4, 60, 64, 256 - 64, frames, frames + 4, frames + 8, frames + 60, uint32(bytes - 64), uint32(bytes - 68), uint32(bytes - 72)}
			for _, at := range places {
				for _, op := range []uint8{api.OpSave, api.OpRestore} {
					m := base.Copy()
					x := api.Inst{Op: op}
					about(t, m, x, 1)
					if op == api.OpSave {
						setFrame(t, m, (1+2*nw-2)%nw, at)
					} else {
						setFrame(t, m, 2%nw, at)
					}
					traps(t, m, x, fmt.Sprintf("Op %d, the frame at %d of %d bytes, %d windows", op, at, bytes, nw))
				}
			}
		}
	}
}

// P8.3: the greatest memory, with the frame in its last bytes.
func TestGreatestMemory(t *testing.T) {
	for _, nw := range []int{2, 32} {
		for _, op := range []uint8{api.OpSave, api.OpRestore} {
			m := machine(t, nw, both(t, nw), api.MaxMem)
			setFrames(t, m)
			x := api.Inst{Op: op}
			about(t, m, x, 0)
			other := 1
			if op == api.OpSave {
				other = nw - 2
			}
			setFrame(t, m, other, api.MaxMem-64)
			traps(t, m, x, fmt.Sprintf("Op %d of %d windows", op, nw))
		}
	}
}

// P8.3: two windows: the overflow handler stores the current window itself, which is invalid then; the underflow handler makes it the invalid one, too.
func TestTwoWindows(t *testing.T) {
	for window := range 2 {
		m := ready(t, 2)
		about(t, m, api.Inst{Op: api.OpSave, Rd: 16, Rs1: 16, Is: true, Imm: 7}, window)
		ok(t, m.File().Set(window, 0, o6, frames+640))
		own, _ := m.File().Window(window)
		other, _ := m.File().Window(1 - window)
		handled(t, m, overVector)
		if l, _ := m.Mem().Words(frames+640, 16); !slices.Equal(l, own) || m.Wim() != 1<<window || int(m.Psr().Cwp) != window {
			t.Errorf("window %d: stored %x, WIM %x, state %v; want %x", window, l, m.Wim(), m.Psr(), own)
		}
		step(t, m)
		other[0] = own[0] + 7
		l, _ := m.File().Window(1 - window)
		if again, _ := m.File().Window(window); !slices.Equal(again, own) || !slices.Equal(l, other) || int(m.Psr().Cwp) != 1-window {
			t.Errorf("window %d: the windows are %x and %x, state %v; want %x and %x", window, again, l, m.Psr(), own, other)
		}

		m = ready(t, 2)
		about(t, m, api.Inst{Op: api.OpRestore}, window)
		ok(t, m.File().Set(window, 0, i6, frames+640))
		own, _ = m.File().Window(window)
		frame, _ := m.Mem().Words(frames+640, 16)
		handled(t, m, underVector)
		if m.Wim() != 1<<window || int(m.Psr().Cwp) != window {
			t.Errorf("window %d: WIM %x, state %v", window, m.Wim(), m.Psr())
		}
		step(t, m)
		l, _ = m.File().Window(1 - window)
		if again, _ := m.File().Window(window); !slices.Equal(again, own) || !slices.Equal(l, frame) || int(m.Psr().Cwp) != 1-window {
			t.Errorf("window %d: the windows are %x and %x, state %v; want %x and %x", window, again, l, m.Psr(), own, frame)
		}
	}
}

// P8.3, R4: interrupts before any steps of the handlers, also several, and by higher levels in those of lower ones, change nothing.
func TestInterrupted(t *testing.T) {
	for _, nw := range []int{2, 3, 8, 32} {
		base := ready(t, nw)
		for level := range 16 {
			ok(t, base.Mem().Store(uint32(256+16*(16+level)), 4, rett))
		}
		for _, op := range []uint8{api.OpSave, api.OpRestore} {
			x := api.Inst{Op: op, Rd: 9, Rs1: 10, Is: true, Imm: 1}
			for window := range nw {
				for at := range 40 {
					m := base.Copy()
					about(t, m, x, window)
					ok(t, m.SetPsr(api.Psr{Cwp: uint8(window), Pil: 2, Flags: 9}))
					want := look(t, m)
					if op == api.OpSave {
						want.overflow()
					} else {
						want.underflow()
					}
					want.turn(x)
					interrupted(t, m, at)
					got := look(t, m)
					got.saved[3], got.saved[15] = want.saved[3], want.saved[15]
					got.is(t, want, fmt.Sprintf("interrupted before the step %d", at))
				}
			}
		}
	}
}

// interrupted has the machine run to behind its instruction, with an interrupt before the step at, and another one in that one's handler; if at is 0, with one before each instruction.
func interrupted(t *testing.T, m *mach.Machine, at int) {
	t.Helper()
	for many := range 300 {
		if m.PC() == code+4 && m.Psr().Bank == 0 {
			return
		}
		if s := m.Step(levelOf(many, at)); s.Kind != api.StRun {
			t.Fatalf("at the PC %d: stop %v", m.PC(), s)
		}
	}
	t.Fatalf("the machine is at the PC %d, state %v", m.PC(), m.Psr())
}

// levelOf is the level of a step. Of three steps the first one is an interrupt if at is 0: the second one is its OpRett.
func levelOf(many, at int) uint8 {
	switch {
	case at == 0 && many%3 == 0, at > 0 && many == at:
		return 3
	case at > 0 && many == at+1:
		return 15
	}
	return 0
}

// P8.2: what Store and Load do, in all windows of all numbers of windows, and in any bank; they use no globals.
func TestFrames(t *testing.T) {
	store, load := frameWords(t, wind.Store), frameWords(t, wind.Load)
	for nw := 2; nw <= 32; nw++ {
		base := ready(t, nw)
		for window := range nw {
			for _, bank := range []uint8{0, uint8(1 + window%15), 16} {
				m := base.Copy()
				ok(t, m.SetPsr(api.Psr{Cwp: uint8(window), Pil: 3, Bank: bank, Flags: 6}))
				framed(t, m, store, (*world).store)
				framed(t, m, load, (*world).load)
				m = base.Copy()
				ok(t, m.SetPsr(api.Psr{Cwp: uint8(window), Bank: bank}))
				framed(t, m, load, (*world).load)
			}
		}
	}
}

// framed has the machine execute the 16 instructions of a frame, and compares it with what the effect makes of it.
func framed(t *testing.T, m *mach.Machine, l []uint32, effect func(w *world, window int)) {
	t.Helper()
	ok(t, m.Mem().Put(code, l))
	ok(t, m.SetPC(code))
	want := look(t, m)
	effect(want, want.cwp())
	want.pc += 64
	for range 16 {
		step(t, m)
	}
	look(t, m).isWhole(t, want, fmt.Sprintf("state %v of %d windows", want.psr, want.nw))
}

// P8.2: frames at both edges of the memory, and a frame that was stored and is loaded again.
func TestFramesAtEdges(t *testing.T) {
	store, load := frameWords(t, wind.Store), frameWords(t, wind.Load)
	for _, nw := range []int{2, 3, 32} {
		for _, at := range []uint32{0, 4, frames + 4, size - 68, size - 64} {
			m := ready(t, nw)
			setFrame(t, m, 0, at)
			own, _ := m.File().Window(0)
			framed(t, m, store, (*world).store)
			for i := range 16 {
				ok(t, m.File().Set(0, 0, l0+i, 0xbad))
			}
			framed(t, m, load, (*world).load)
			if l, _ := m.File().Window(0); !slices.Equal(l, own) {
				t.Errorf("the frame at %d, of %d windows: %x; want %x", at, nw, l, own)
			}
		}
	}
}

// P8.4: whatever was done to the registers of the other window but i6, and to globals, the current one is as it was after an OpRestore, which traps if there are two windows.
func TestThereAndBack(t *testing.T) {
	eachWindow(t, func(m *mach.Machine, nw, window int) {
		about(t, m, api.Inst{Op: api.OpSave}, window)
		ok(t, m.Mem().Store(code+4, 4, word(t, api.Inst{Op: api.OpRestore})))
		was := look(t, m)
		handled(t, m, overVector)
		step(t, m)
		spoil(t, m, func(int) bool { return true })
		back(t, m, was)
	})
}

// P8.4: any single one of the other window's registers, changed by itself.
func TestThereAndBackOne(t *testing.T) {
	for _, nw := range []int{2, 3, 4, 32} {
		base := ready(t, nw)
		about(t, base, api.Inst{Op: api.OpSave}, 1)
		ok(t, base.Mem().Store(code+4, 4, word(t, api.Inst{Op: api.OpRestore})))
		was := look(t, base)
		handled(t, base, overVector)
		step(t, base)
		for reg := range 32 {
			m := base.Copy()
			spoil(t, m, func(r int) bool { return r == reg })
			back(t, m, was)
		}
	}
}

// spoil changes registers of the current window, of all that there are but i6.
func spoil(t *testing.T, m *mach.Machine, which func(reg int) bool) {
	t.Helper()
	for reg := range 32 {
		if reg != i6 && which(reg) {
			ok(t, m.File().Set(int(m.Psr().Cwp), int(m.Psr().Bank), reg, uint32(reg)^0xdead0000))
		}
	}
}

// back has the machine execute an OpRestore, to the window that it had left: that one is as it was then, and so is its o6.
func back(t *testing.T, m *mach.Machine, was *world) {
	t.Helper()
	what := fmt.Sprintf("the window %d of %d", was.cwp(), was.nw)
	if was.nw == 2 {
		handled(t, m, underVector)
	}
	step(t, m)
	now := look(t, m)
	if now.psr != was.psr || now.pc != code+8 {
		t.Fatalf("%s: PC %d, state %v; want %d, %v", what, now.pc, now.psr, code+8, was.psr)
	}
	window := was.cwp()
	if now.windows[window] != was.windows[window] || *now.reg(window, o6) != *was.reg(window, o6) {
		t.Fatalf("%s became %x, o6 %x; want %x, %x", what, now.windows[window], *now.reg(window, o6), was.windows[window], *was.reg(window, o6))
	}
}

// P8.3, P8.4: many more OpSaves than there are windows, each with its frame below the one before, and as many OpRestores: each finds the window that it left.
func TestDeep(t *testing.T) {
	const deep = 80
	for nw := 2; nw <= 32; nw++ {
		for _, first := range []int{0, nw - 1} {
			m := machine(t, nw, both(t, nw), frames+64*(deep+2))
			setFrame(t, m, first, frames+64*(deep+1))
			ok(t, m.SetPsr(api.Psr{Cwp: uint8(first), Flags: 5}))
			ok(t, m.SetWim(1<<((first+1)%nw)))
			var own [][]uint32
			overs, unders := 0, 0
			for n := range deep {
				own = append(own, mine(t, m, n))
				overs += turned(t, m, api.Inst{Op: api.OpSave, Rd: o6, Rs1: o6, Is: true, Imm: -64})
			}
			mine(t, m, deep)
			for n := deep - 1; n >= 0; n-- {
				unders += turned(t, m, api.Inst{Op: api.OpRestore})
				l, e := m.File().Window(int(m.Psr().Cwp))
				ok(t, e)
				if !slices.Equal(l, own[n]) {
					t.Fatalf("%d windows, %d deep: %x; want %x", nw, n, l, own[n])
				}
			}
			if want := deep - (nw - 2); overs != want || unders != want {
				t.Errorf("%d windows: %d overflows and %d underflows; want %d", nw, overs, unders, want)
			}
			if got := m.Psr(); got != (api.Psr{Cwp: uint8(first), Flags: 5}) {
				t.Errorf("%d windows: state %v", nw, got)
			}
		}
	}
}

// mine sets the locals of the current window, and all outs but o6, to numbers of their own, and returns the window as it is then.
func mine(t *testing.T, m *mach.Machine, n int) []uint32 {
	t.Helper()
	window := int(m.Psr().Cwp)
	for reg := 8; reg < 24; reg++ {
		if reg != o6 {
			ok(t, m.File().Set(window, 0, reg, uint32(n<<8|reg)))
		}
	}
	l, e := m.File().Window(window)
	ok(t, e)
	return l
}

// turned has the machine execute an instruction, and returns how many times it trapped.
func turned(t *testing.T, m *mach.Machine, x api.Inst) int {
	t.Helper()
	ok(t, m.Mem().Store(code, 4, word(t, x)))
	ok(t, m.SetPC(code))
	many := 0
	for range 60 {
		step(t, m)
		if m.PC() == code+4 {
			return many
		}
		if m.PC() == overVector || m.PC() == underVector {
			many++
		}
	}
	t.Fatalf("the machine is at the PC %d", m.PC())
	return 0
}
