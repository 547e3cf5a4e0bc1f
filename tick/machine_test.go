package tick_test

import (
	"fmt"
	"testing"

	"muntin/api"
	"muntin/asm"
	"muntin/tick"
)

// P9.1, P9.3: all levels, all numbers of windows, all current windows: everything that a machine has, against the model.
func TestAllWindows(t *testing.T) {
	for nw := 2; nw <= 32; nw++ {
		base := ready(t, nw)
		for window := range nw {
			for level := 1; level <= 15; level++ {
				m := base.Copy()
				ok(t, m.SetWim(1<<((window*5+level)%nw)))
				ok(t, m.SetPsr(api.Psr{Cwp: uint8(window), Pil: uint8((window + nw) % level), Flags: uint8((window*7 + nw + level) % 16)}))
				handled(t, m, level, fmt.Sprintf("level %d in the window %d of %d", level, window, nw))
			}
		}
	}
}

// P9.1: what a handler does, without the model: ticks that are any word, and those of no other level.
func TestTicks(t *testing.T) {
	base := ready(t, 3)
	for level := 1; level <= 15; level++ {
		for _, n := range []uint32{0, 1, 2, 0xff, 0xffff, 0x7fff_fffe, 0x7fff_ffff, 0x8000_0000, 0xffff_fffe, 0xffff_ffff} {
			m := base.Copy()
			for other := range 16 {
				ok(t, m.Mem().Store(uint32(4*other), 4, uint32(100+other)))
			}
			ok(t, m.Mem().Store(uint32(4*level), 4, n))
			m.Step(uint8(level))
			for range handlerSteps {
				m.Step(0)
			}
			l, e := m.Mem().Words(0, 16)
			ok(t, e)
			for other, got := range l {
				want := uint32(100 + other)
				if other == level {
					want = n + 1
				}
				if got != want {
					t.Fatalf("level %d, ticks %x: those of the level %d are %x; want %x", level, n, other, got, want)
				}
			}
			if g1, _ := m.File().Get(0, level, 1); g1 != n+1 || m.PC() != code || m.Psr() != (api.Psr{}) {
				t.Fatalf("level %d, ticks %x: g1 is %x, PC %d, state %v", level, n, g1, m.PC(), m.Psr())
			}
		}
	}
}

// P9.3: all flags, all banks, and all levels of Pil at which the interrupt is taken, are as they were.
func TestStates(t *testing.T) {
	base := ready(t, 2)
	for level := 1; level <= 15; level++ {
		m := base.Copy()
		for pil := range level {
			for n := range 17 * 16 {
				p := api.Psr{Cwp: uint8(n % 2), Pil: uint8(pil), Bank: uint8(n / 16), Flags: uint8(n % 16)}
				ok(t, m.SetPsr(p))
				handled(t, m, level, fmt.Sprintf("level %d, state %v", level, p))
			}
		}
	}
}

// P9.3: an interrupt that is not above Pil is not taken; the instruction is executed.
func TestNotAbovePil(t *testing.T) {
	base := ready(t, 3)
	ok(t, base.Mem().Store(code, 4, word(t, api.Inst{Op: api.OpOut, Rs1: o6})))
	for pil := range 16 {
		for _, level := range []int{0, 1, 2, 3, 7, 8, 14, 15, 16, 17, 31, 128, 255} {
			if level > pil && level <= 15 {
				continue
			}
			m := base.Copy()
			ok(t, m.SetPsr(api.Psr{Cwp: 1, Pil: uint8(pil), Flags: 6}))
			free := m.Copy()
			free.Step(0)
			m.Step(uint8(level))
			look(t, m).is(t, look(t, free), fmt.Sprintf("level %d at Pil %d", level, pil))
		}
	}
}

// P9.3: whatever the PC is, also where there is no instruction, or no word.
func TestPlacesOfPC(t *testing.T) {
	base := ready(t, 3)
	for _, pc := range []uint32{0, 4, 60, 256, vectors, handlers, handlers + 8, code, code + 4, size - 4, size, 1, 2, 3, 1 << 31, 0xffff_fffc, 0xffff_ffff} {
		for level := 1; level <= 15; level++ {
			m := base.Copy()
			ok(t, m.SetPC(pc))
			handled(t, m, level, fmt.Sprintf("level %d at the PC %x", level, pc))
		}
	}
}

// P9.3: whatever the globals of the bank are, and its TPC and TPSR.
func TestGlobals(t *testing.T) {
	for _, n := range []uint32{0, 1, 0x7fff_ffff, 0x8000_0000, 0xffff_ffff} {
		m := ready(t, 2)
		for bank := range 17 {
			for i := range 8 {
				ok(t, m.File().Set(0, bank, i, n))
			}
		}
		for level := 1; level <= 15; level++ {
			handled(t, m, level, fmt.Sprintf("level %d, globals %x", level, n))
		}
	}
}

// P9.3: vectors that lead to handlers in any order, behind other instructions, and in a copy.
func TestHandlersAnywhere(t *testing.T) {
	falling, behind := asm.New(), filled(t)
	for level := 15; level >= 1; level-- {
		ok(t, tick.Tick(falling, level))
		ok(t, behind.Put(api.Inst{Op: api.OpFault, Is: true, Imm: 3}))
		ok(t, tick.Tick(behind, level))
	}
	after := filled(t)
	ok(t, tick.All(after))
	ok(t, after.Put(api.Inst{Op: api.OpFault, Is: true, Imm: 3}))
	for i, a := range []*asm.Asm{falling, behind, after, falling.Copy(), after.Copy()} {
		m := various(t, 3, size)
		lay(t, m, a)
		for level := 1; level <= 15; level++ {
			handled(t, m, level, fmt.Sprintf("level %d, the list %d", level, i))
		}
	}
}

// P9.2, P9.3: four instructions are the 16 bytes of a vector, so that the handlers of all levels, in increasing order, can be the vectors themselves, in a memory that ends with them.
func TestHandlersInVectors(t *testing.T) {
	for _, nw := range []int{2, 32} {
		m := various(t, nw, vectors+4*60)
		ok(t, m.Mem().Put(vectors, words(t, all(t))))
		for level := 1; level <= 15; level++ {
			want := look(t, m)
			want.interrupt(level)
			for _, n := range []uint8{uint8(level), 0, 0, 0, 0} {
				m.Step(n)
			}
			look(t, m).is(t, want, fmt.Sprintf("level %d of %d windows", level, nw))
		}
	}
}

// P9.3: the greatest memory.
func TestGreatestMemory(t *testing.T) {
	m := various(t, 2, api.MaxMem)
	lay(t, m, all(t))
	ok(t, m.SetPC(api.MaxMem-4))
	handled(t, m, 1, "the level 1")
	handled(t, m, 15, "the level 15")
}
