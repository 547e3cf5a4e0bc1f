package boot_test

import (
	"fmt"
	"slices"
	"testing"

	"muntin/api"
	"muntin/boot"
	"muntin/mach"
)

// ready returns a machine that has a kit's runtime.
func ready(t *testing.T, nw int) *mach.Machine {
	t.Helper()
	return various(t, nw, size, words(t, boot.New(), nw))
}

func quiet(int) uint8 { return 0 }

// atStep returns the levels of steps of which one is interrupted by a level.
func atStep(step int, level uint8) func(int) uint8 {
	return func(n int) uint8 {
		if n == step {
			return level
		}
		return 0
	}
}

// rising are levels that interrupt each other's handlers, from a step on, and some beyond. They end, as otherwise nothing but handlers could be executed.
func rising(from int) func(int) uint8 {
	return func(n int) uint8 {
		if n < from || n > from+60 {
			return 0
		}
		return uint8((n - from) * (from + 1) % 18)
	}
}

// toStart puts the machine at the start, in a window.
func toStart(t *testing.T, m *mach.Machine, window int) {
	t.Helper()
	nw := m.File().NW()
	ok(t, m.SetPC(start(t, boot.New(), nw)))
	ok(t, m.SetPsr(api.Psr{Cwp: uint8(window), Flags: uint8(window*7+nw) % 16}))
	ok(t, m.SetWim(1<<((window+nw*5+3)%nw)))
}

// starts has the machine execute the start, to the PC of thread 0, and compares it with what it must be.
func starts(t *testing.T, m *mach.Machine, levels func(int) uint8, what string) {
	t.Helper()
	r := &rig{m: m}
	want := look(t, m)
	want.begin()
	for n := 0; m.Psr().Bank != 0 || m.PC() != want.pc; n++ {
		r.step(t, levels(n))
		if n > 400 || m.Psr().Bank == 0 && r.steps > 400 {
			t.Fatalf("%s: no end: PC %d, state %v", what, m.PC(), m.Psr())
		}
	}
	got := look(t, m)
	got.sameTrapBank(t, want, what)
	got.globals[0][1] = want.globals[0][1]
	got.is(t, r.ticked(want), what)
}

// sameTrapBank tells whether nothing of the bank 16 was changed: the start takes no trap to it.
func (w *world) sameTrapBank(t *testing.T, want *world, what string) {
	t.Helper()
	if w.globals[16] != want.globals[16] || w.saved[16] != want.saved[16] {
		t.Fatalf("%s: the bank 16 has %x and %x; want %x and %x", what, w.globals[16], w.saved[16], want.globals[16], want.saved[16])
	}
}

// The effect of the start, without the model.
func TestStartedThread(t *testing.T) {
	m := ready(t, 4)
	toStart(t, m, 2)
	ok(t, m.Mem().Put(blocks, []uint32{2048, 3000, 2900, 1}))
	for range 20 {
		if m.PC() != 2048 {
			m.Step(0)
		}
	}
	sp, _ := m.File().Get(2, 0, o6)
	l, _ := m.Mem().Load(limit, 4)
	if m.PC() != 2048 || sp != 3000 || l != 2900 || m.Psr().Cwp != 2 || m.Psr().Bank != 0 {
		t.Errorf("PC %d, o6 %d, limit %d, state %v", m.PC(), sp, l, m.Psr())
	}
}

// P11.1: the effect of the start, for all numbers of windows, and all of their windows: everything that a machine has, against the model.
func TestStartAllWindows(t *testing.T) {
	for _, nw := range allNumbers() {
		base := ready(t, nw)
		for window := range nw {
			m := base.Copy()
			toStart(t, m, window)
			starts(t, m, quiet, fmt.Sprintf("the start in the window %d of %d", window, nw))
		}
	}
}

// P11.1: the start with blocks that are any words, for all flags and all levels of Pil.
func TestStartStates(t *testing.T) {
	base := ready(t, 3)
	for _, n := range []uint32{0, 1, 4, 0x7fffffff, 0x80000000, 0xfffffffc, 0xffffffff} {
		for state := range 256 {
			m := base.Copy()
			toStart(t, m, 1)
			setThread(t, m, 0, n, ^n, n/3, n&1)
			ok(t, m.SetPsr(api.Psr{Cwp: 1, Pil: uint8(state / 16), Flags: uint8(state % 16)}))
			starts(t, m, quiet, fmt.Sprintf("the words %x, the state %x", n, state))
		}
	}
}

// P11.1: the start is that of thread 0, whichever runs, of however many.
func TestStartFirst(t *testing.T) {
	for thread := range uint32(4) {
		for many := thread + 1; many <= 4; many++ {
			m := ready(t, 8)
			toStart(t, m, 5)
			ok(t, m.Mem().Put(current, []uint32{thread, many}))
			starts(t, m, quiet, fmt.Sprintf("thread %d of %d", thread, many))
		}
	}
}

// P11.4, P4: the start, interrupted before each of its steps by each level; or by many.
func TestStartInterrupted(t *testing.T) {
	for _, nw := range []int{2, 3, 32} {
		base := ready(t, nw)
		for step := range 8 {
			for level := range uint8(17) {
				m := base.Copy()
				toStart(t, m, step%nw)
				starts(t, m, atStep(step, level), fmt.Sprintf("the level %d before the step %d of %d windows", level, step, nw))
			}
			m := base.Copy()
			toStart(t, m, step%nw)
			starts(t, m, rising(step), fmt.Sprintf("levels from the step %d on, of %d windows", step, nw))
		}
	}
}

// instructions are those with which threads come to the handlers.
func instructions() []api.Inst {
	return []api.Inst{
		{Op: api.OpSave, Rd: o6, Rs1: o6, Is: true, Imm: -64},
		{Op: api.OpSave, Rd: 17, Rs1: 9, Rs2: 25},
		{Op: api.OpRestore},
		{Op: api.OpRestore, Rd: 24, Rs1: 16, Is: true, Imm: 77},
		{Op: api.OpTrap, Is: true, Imm: 3},
		{Op: api.OpTrap, Is: true, Imm: 4},
	}
}

// about has the machine execute an instruction, in a window, with a state of its own beside, if another one is invalid.
func about(t *testing.T, m *mach.Machine, x api.Inst, window, invalid int) {
	t.Helper()
	nw := m.File().NW()
	ok(t, m.Mem().Store(code, 4, word(t, x)))
	ok(t, m.SetPC(code))
	ok(t, m.SetPsr(api.Psr{Cwp: uint8(window), Flags: uint8((window*7 + nw + invalid) % 16)}))
	ok(t, m.SetWim(1<<invalid))
}

// does has the machine execute an instruction that it is about to, with a choice and interrupts, and compares it with what it must be. It returns the steps.
func does(t *testing.T, m *mach.Machine, x api.Inst, choice uint32, levels func(int) uint8, what string) int {
	t.Helper()
	want := look(t, m)
	want.do(t, x, choice)
	ok(t, m.Choose([]uint32{choice, ^choice}))
	r := &rig{m: m}
	r.finish(t, levels)
	look(t, m).is(t, r.ticked(want), what)
	return r.steps
}

// P11.4: each of the instructions, for all numbers of windows, all current windows, and all that are invalid, the current one too: everything that a machine has, against the model.
func TestAllWindows(t *testing.T) {
	for _, nw := range allNumbers() {
		base := ready(t, nw)
		for window := range nw {
			for invalid := range nw {
				for i, x := range instructions() {
					m := base.Copy()
					about(t, m, x, window, invalid)
					what := fmt.Sprintf("the instruction %d in the window %d of %d, %d invalid", i, window, nw, invalid)
					if steps := does(t, m, x, uint32(window*5+invalid), quiet, what); i < 4 && steps > 60 {
						t.Errorf("%s: %d steps", what, steps)
					}
				}
			}
		}
	}
}

// P11.4: the same, each interrupted before another step, by another level, whose handler is interrupted itself.
func TestAllWindowsInterrupted(t *testing.T) {
	for _, nw := range []int{2, 3, 4, 8, 15, 31, 32} {
		base := ready(t, nw)
		n := 0
		for window := range nw {
			for invalid := range nw {
				for i, x := range instructions() {
					m := base.Copy()
					about(t, m, x, window, invalid)
					n++
					does(t, m, x, uint32(n), rising(n%40), fmt.Sprintf("the instruction %d in the window %d of %d, %d invalid, %d", i, window, nw, invalid, n))
				}
			}
		}
	}
}

// P11.4: each of the instructions, with a trap, interrupted before each step, of it and of its handler, by each level.
func TestBeforeEachStep(t *testing.T) {
	for _, nw := range []int{2, 3, 8} {
		base := ready(t, nw)
		for i, x := range instructions() {
			window, invalid := nw-1, nw-2
			if x.Op == api.OpRestore {
				invalid = 0
			}
			m := base.Copy()
			about(t, m, x, window, invalid)
			steps := does(t, m, x, 2, quiet, "without interrupts")
			if steps < 20 {
				t.Errorf("the instruction %d of %d windows did not trap", i, nw)
			}
			for step := range steps {
				for level := uint8(1); level <= 15; level++ {
					m := base.Copy()
					about(t, m, x, window, invalid)
					does(t, m, x, 2, atStep(step, level), fmt.Sprintf("the instruction %d of %d windows, the level %d before the step %d", i, nw, level, step))
				}
			}
		}
	}
}

// P11.4: interrupts that Pil does not let through, and those that it does.
func TestPil(t *testing.T) {
	base := ready(t, 3)
	for pil := range uint8(16) {
		for level := range uint8(18) {
			for i, x := range instructions() {
				m := base.Copy()
				about(t, m, x, 1, 0)
				if x.Op == api.OpRestore {
					about(t, m, x, 1, 2)
				}
				ok(t, m.SetPsr(api.Psr{Cwp: 1, Pil: pil, Flags: 6}))
				before := look(t, m)
				does(t, m, x, 1, atStep(7, level), fmt.Sprintf("the instruction %d, Pil %d, level %d", i, pil, level))
				if level > pil && level <= 15 {
					before.memory[level]++
				}
				if l, _ := m.Mem().Words(0, 16); !slices.Equal(l, before.memory[:16]) {
					t.Errorf("the instruction %d, Pil %d, level %d: the ticks are %x; want %x", i, pil, level, l, before.memory[:16])
				}
			}
		}
	}
}

// P11.4: all levels, each in the handler of the one below it, in each handler of the bank 16, and back.
func TestDeep(t *testing.T) {
	for _, nw := range []int{2, 3, 32} {
		base := ready(t, nw)
		for i, x := range instructions() {
			for from := range 28 {
				m := base.Copy()
				about(t, m, x, 0, nw-1)
				if x.Op == api.OpRestore {
					about(t, m, x, 0, 1)
				}
				does(t, m, x, 3, func(n int) uint8 {
					if n < from || n >= from+15 {
						return 0
					}
					return uint8(n - from + 1)
				}, fmt.Sprintf("the instruction %d of %d windows, from the step %d on", i, nw, from))
				for level := uint32(1); level <= 15; level++ {
					if n, _ := m.Mem().Load(4*level, 4); n != (level-1)*0x11111111+1 {
						t.Fatalf("the ticks of the level %d are %x", level, n)
					}
				}
			}
		}
	}
}

// P11.4: every choice among every set of threads.
func TestChoices(t *testing.T) {
	for _, nw := range []int{2, 5} {
		base := ready(t, nw)
		for set := 1; set < 16; set++ {
			for running := range uint32(4) {
				for i, choice := range []uint32{0, 1, 2, 3, 7, 0x7fffffff, 0x80000000, 0xfffffffe, 0xffffffff} {
					for _, x := range instructions()[4:] {
						if x.Imm == 4 && set&^(1<<running) == 0 {
							continue
						}
						m := base.Copy()
						about(t, m, x, i%nw, (i+set)%nw)
						ok(t, m.Mem().Store(current, 4, running))
						for thread := range uint32(4) {
							ok(t, m.Mem().Store(block(thread)+12, 4, uint32(set)>>thread&1))
						}
						does(t, m, x, choice, rising(set), fmt.Sprintf("thread %d, alive %b, the choice %x", running, set, choice))
					}
				}
			}
		}
	}
}

// P11.4: the runtime is not changed by what it does, but for the ticks, the blocks of threads and what is behind them.
func TestRuntimeStays(t *testing.T) {
	for _, nw := range []int{2, 8, 32} {
		m := ready(t, nw)
		for i, x := range slices.Repeat(instructions(), 3) {
			if x.Op == api.OpTrap && x.Imm == 4 {
				continue
			}
			about(t, m, x, i%nw, (i*5+1)%nw)
			for thread := range uint32(4) {
				setThread(t, m, thread, code+0x40, others+64*thread, 5, 1)
			}
			for window := range nw {
				setSP(t, m, window, uint32(frames+64*window))
			}
			does(t, m, x, uint32(i), rising(i), fmt.Sprintf("the instruction %d of %d windows", i, nw))
		}
		want := words(t, boot.New(), nw)
		if l, e := m.Mem().Words(0, len(want)); e != api.OK || !slices.Equal(l[35:], want[35:]) {
			t.Errorf("%d windows: the runtime changed", nw)
		}
	}
}
