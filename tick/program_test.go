package tick_test

import (
	"fmt"
	"math/rand"
	"testing"

	"muntin/api"
	"muntin/asm"
	"muntin/mach"
	"muntin/wind"
)

const (
	overVector  = 272
	underVector = 288
	yieldVector = 304
	cells       = frames + 39*64 // words that the program stores, and loads
)

// alu is rd = rs1 op imm.
func alu(op, rd, rs1 uint8, imm int32) api.Inst {
	return api.Inst{Op: api.OpAlu + op, Rd: rd, Rs1: rs1, Is: true, Imm: imm}
}

// program returns a list that calls itself deeper than there are windows, yields, raises Pil for a while, and executes Ops of nearly all kinds; then the instructions last.
func program(t *testing.T, nw int, last ...api.Inst) *asm.Asm {
	t.Helper()
	a := asm.New()
	ok(t, a.Const(o6, frames+38*64))
	ok(t, a.Const(2, uint32(nw+2)))
	ok(t, a.Const(5, cells))
	ok(t, a.Call("deeper"))
	ok(t, a.Put(
		api.Inst{Op: api.OpOut, Rs1: 8},
		api.Inst{Op: api.OpRdPsr, Rd: 3},
		alu(api.AlAdd, 4, 3, 9<<5),
		api.Inst{Op: api.OpWrPsr, Rs1: 4, Is: true},
		alu(api.AlMul, 16, 8, 77),
		api.Inst{Op: api.OpOut, Rs1: 4},
		alu(api.AlRem, 17, 16, 10),
		api.Inst{Op: api.OpWrPsr, Rs1: 3, Is: true},
		api.Inst{Op: api.OpTrap, Is: true, Imm: 3},
		api.Inst{Op: api.OpRdPsr, Rd: 3},
		api.Inst{Op: api.OpOut, Rs1: 3},
		api.Inst{Op: api.OpChoice, Rd: 18},
		api.Inst{Op: api.OpChoice, Rd: 19},
		api.Inst{Op: api.OpCmp, Rs1: 18, Rs2: 19},
	))
	ok(t, a.Jump(api.CoLtu, "less"))
	ok(t, a.Put(api.Inst{Op: api.OpOut, Rs1: 18}))
	ok(t, a.Mark("less"))
	ok(t, a.Put(
		api.Inst{Op: api.OpOut, Rs1: 19},
		api.Inst{Op: api.OpRdWim, Rd: 20},
		api.Inst{Op: api.OpWrWim, Rs1: 20, Is: true},
		api.Inst{Op: api.OpOut, Rs1: 20},
	))
	ok(t, a.Put(last...))
	deeper(t, a)
	return a
}

// deeper appends a function that calls itself as often as g2 says.
func deeper(t *testing.T, a *asm.Asm) {
	t.Helper()
	ok(t, a.Mark("deeper"))
	ok(t, a.Put(
		api.Inst{Op: api.OpSave, Rd: o6, Rs1: o6, Is: true, Imm: -64},
		api.Inst{Op: api.OpCmp, Rs1: 2, Is: true},
	))
	ok(t, a.Jump(api.CoEq, "back"))
	ok(t, a.Put(
		alu(api.AlSub, 2, 2, 1),
		alu(api.AlXor, 16, 2, 0x155),
		api.Inst{Op: api.OpSt, Rd: 16, Rs1: 5, Is: true, Imm: 8},
		api.Inst{Op: api.OpLdb, Rd: 17, Rs1: 5, Is: true, Imm: 11},
		api.Inst{Op: api.OpStb, Rd: 17, Rs1: 5, Is: true, Imm: 4},
		api.Inst{Op: api.OpLd, Rd: 18, Rs1: 5, Is: true, Imm: 4},
		api.Inst{Op: api.OpSethi, Rd: 19, Is: true, Imm: 5},
	))
	ok(t, a.Call("deeper"))
	ok(t, a.Put(api.Inst{Op: api.OpAlu + api.AlAdd, Rd: 24, Rs1: 8, Rs2: 17}))
	ok(t, a.Mark("back"))
	ok(t, a.Put(
		api.Inst{Op: api.OpRestore},
		alu(api.AlAdd, 8, 8, 1),
		api.Inst{Op: api.OpJmpl, Rs1: 15, Is: true, Imm: 4},
	))
}

// yield appends a handler that works with the globals of the bank 16, its TPC and its TPSR, and with flags of its own.
func yield(t *testing.T, a *asm.Asm) {
	t.Helper()
	ok(t, a.Mark("yield"))
	ok(t, a.Put(
		api.Inst{Op: api.OpRdT, Rd: 1, Is: true},
		api.Inst{Op: api.OpRdT, Rd: 2, Is: true, Imm: 1},
		api.Inst{Op: api.OpCmp, Rs1: 1, Rs2: 2},
		alu(api.AlXor, 2, 2, 15<<10),
		alu(api.AlXor, 2, 2, 15<<10),
		api.Inst{Op: api.OpWrT, Rs1: 2, Is: true, Imm: 1},
		api.Inst{Op: api.OpWrT, Rs1: 1, Is: true},
		api.Inst{Op: api.OpRett},
	))
}

// running returns a machine that is about to execute a program, with all handlers.
func running(t *testing.T, nw int, program *asm.Asm) *mach.Machine {
	t.Helper()
	a := all(t)
	ok(t, wind.Over(a, nw))
	ok(t, wind.Under(a, nw))
	yield(t, a)
	if l := words(t, program); a.Len() > (code-handlers)/4 || len(l) > (frames-code)/4 {
		t.Fatalf("no room for %d and %d instructions", a.Len(), len(l))
	}
	m := various(t, nw, size)
	lay(t, m, a)
	vector(t, m, a, overVector, "over")
	vector(t, m, a, underVector, "under")
	vector(t, m, a, yieldVector, "yield")
	ok(t, m.Mem().Put(code, words(t, program)))
	ok(t, m.SetPC(code))
	ok(t, m.Choose([]uint32{0xffff_fffe, 3}))
	return m
}

// halting is a program that halts with o0.
func halting(t *testing.T, nw int) *mach.Machine {
	t.Helper()
	return running(t, nw, program(t, nw, api.Inst{Op: api.OpHalt, Rs1: 8}))
}

// ends runs both machines to the end of what is not interrupted, with a level for each step, and compares them there; many is how many steps there are at most.
func (p *pair) ends(t *testing.T, many int, level func(step int) uint8, what string) {
	t.Helper()
	for i := 0; p.free.Stop().Kind == api.StRun; i++ {
		if i == many {
			t.Fatalf("%s: no end: PC %d, state %v", what, p.m.PC(), p.m.Psr())
		}
		p.step(t, level(i))
		if len(p.open) == 0 && (p.m.PC() != p.free.PC() || p.m.Psr() != p.free.Psr() || p.m.Stop() != p.free.Stop()) {
			t.Fatalf("%s: PC %d, state %v, stop %v; want %d, %v, %v", what, p.m.PC(), p.m.Psr(), p.m.Stop(), p.free.PC(), p.free.Psr(), p.free.Stop())
		}
	}
	p.same(t, what)
}

// The program of these tests does what it must: with traps of windows, and to its end.
func TestProgram(t *testing.T) {
	for _, nw := range []int{2, 3, 8, 32} {
		m := halting(t, nw)
		traps := map[uint32]int{}
		for range 3000 {
			m.Step(0)
			traps[m.PC()]++
		}
		if m.Stop().Kind != api.StHalt || len(m.Out()) != 6 || traps[overVector] < 4 || traps[underVector] < 4 || traps[yieldVector] != 1 {
			t.Errorf("%d windows: PC %d, stop %v, output %x, traps %d, %d, %d",
				nw, m.PC(), m.Stop(), m.Out(), traps[overVector], traps[underVector], traps[yieldVector])
		}
	}
}

// P9.3: before every instruction, also of the other handlers, an interrupt of every level: the machine is as before it, at once.
func TestBeforeEveryInstruction(t *testing.T) {
	for _, nw := range []int{2, 3, 8} {
		m := halting(t, nw)
		for many := 0; m.Stop().Kind == api.StRun; many++ {
			if many == 3000 {
				t.Fatal("no end")
			}
			for level := 1; level <= 15; level++ {
				p := twins(m)
				p.step(t, uint8(level))
				p.same(t, fmt.Sprintf("level %d before the step %d of %d windows", level, many, nw))
			}
			m.Step(0)
		}
	}
}

// P9.3: an interrupt before every instruction of the whole program, of one level; and now and then those of many levels, in each other's handlers.
func TestBeforeAllInstructions(t *testing.T) {
	for _, nw := range []int{2, 3, 8, 32} {
		base := halting(t, nw)
		for level := 1; level <= 15; level++ {
			p := twins(base)
			// One step of the program between two interrupts: without it there would be no end.
			p.ends(t, 30000, func(step int) uint8 {
				if step%(handlerSteps+2) == 0 {
					return uint8(level)
				}
				return 0
			}, fmt.Sprintf("level %d, %d windows", level, nw))
			if p.many[level] < 100 || p.m.Stop().Kind != api.StHalt {
				t.Fatalf("level %d, %d windows: %d interrupts, stop %v", level, nw, p.many[level], p.m.Stop())
			}
		}
		for _, by := range []int{1, 2, 4, 7} {
			p := twins(base)
			p.ends(t, 100000, func(step int) uint8 {
				if step%(100+by) < 16 {
					return uint8(step * by % 16)
				}
				return 0
			}, fmt.Sprintf("levels by %d, %d windows", by, nw))
		}
	}
}

// P9.3: interrupts at any steps, often and seldom, also with numbers that are no levels.
func TestAnyInterrupts(t *testing.T) {
	for _, nw := range []int{2, 3, 5, 8, 32} {
		base := halting(t, nw)
		for seed := range int64(30) {
			r := rand.New(rand.NewSource(seed))
			often := 2 + r.Intn(20)
			p := twins(base)
			p.ends(t, 100000, func(int) uint8 {
				switch n := r.Intn(often); n {
				case 0:
					return uint8(r.Intn(16))
				case 1:
					return uint8(r.Intn(256))
				}
				return 0
			}, fmt.Sprintf("the seed %d, %d windows", seed, nw))
			if p.m.Stop().Kind != api.StHalt {
				t.Fatalf("the seed %d, %d windows: stop %v", seed, nw, p.m.Stop())
			}
		}
	}
}

// P9.3: programs that end with a fault, or an error of the machine, end so with interrupts, too.
func TestOtherEnds(t *testing.T) {
	for _, last := range [][]api.Inst{
		{{Op: api.OpFault, Is: true, Imm: 2}},
		{alu(api.AlDiv, 1, 1, 0)},
		{{Op: api.OpRett}},
		{{Op: api.OpLd, Rd: 1, Is: true, Imm: 2}},
		{{Op: api.OpJmpl, Is: true, Imm: 2}},
	} {
		base := running(t, 3, program(t, 3, last...))
		for _, level := range []uint8{0, 1, 8, 15} {
			p := twins(base)
			p.ends(t, 30000, func(step int) uint8 { return level * uint8(step%9/8) }, fmt.Sprintf("%v, level %d", last, level))
			if k := p.m.Stop().Kind; k == api.StHalt || k == api.StRun {
				t.Errorf("%v, level %d: stop %v", last, level, p.m.Stop())
			}
			at := look(t, p.m)
			p.step(t, 15)
			look(t, p.m).is(t, at, "after the stop")
		}
	}
}
