package mach_test

import (
	"slices"
	"testing"

	"muntin/api"
	"muntin/inst"
	"muntin/word"
)

// The registers that the tests of operations use: of each kind one, and none of them special.
const (
	g1, g2, g3 = 1, 2, 3
	o1, o2     = 9, 10
	l3, l4     = 19, 20
	i5         = 29
)

func nothing(*model) {}

// P6.2: the chapter's examples.
func TestExamples(t *testing.T) {
	r := newRig(t, 2, 1024)
	r.does(api.Inst{Op: api.OpAlu + api.AlAdd, Rd: 1, Is: true, Imm: 5}, func(w *model) { *w.reg(1) = 5 })
	r.does(api.Inst{Op: api.OpOut, Rs1: 1}, func(w *model) { w.out = []uint32{5} })
	if r.m.PC() != 8 {
		t.Errorf("the PC is %d; want 8", r.m.PC())
	}
	r.stops(api.Inst{Op: api.OpHalt, Rs1: 1}, api.Stop{Kind: api.StHalt, V: 5})

	r = newRig(t, 2, 1024)
	r.does(api.Inst{Op: api.OpSave}, func(w *model) { w.pc, w.psr.Bank = 272, 16 })
	if pc, _, e := r.m.T(16); pc != 0 || e != api.OK || r.m.Wim() != 2 {
		t.Errorf("T(16) = %d, %d, the WIM is %d; want 0 and 2", pc, e, r.m.Wim())
	}

	r = newRig(t, 2, 1024)
	r.setPC(40)
	r.step(3)
	if pc, n, e := r.m.T(3); r.m.PC() != 560 || r.m.Psr() != (api.Psr{Bank: 3, Pil: 3}) || pc != 40 || n != 0 || e != api.OK {
		t.Errorf("PC %d, state %v, T(3) = %d, %d, %d; want 560, Bank 3 and Pil 3, 40 and 0", r.m.PC(), r.m.Psr(), pc, n, e)
	}

	newRig(t, 2, 1024).stops(api.Inst{Op: api.OpAlu + api.AlDiv, Rd: 1}, api.Stop{Kind: api.StFault, V: 1})
	newRig(t, 2, 1024).stops(api.Inst{Op: api.OpRett}, api.Stop{Kind: api.StError})
	if s := made(t, 2, 1024).Step(0); s != (api.Stop{Kind: api.StError}) {
		t.Errorf("the word 0: %v; want StError", s)
	}
}

// P6.2: all operations of the ALU, on words at the edges of signs and of 2^32, with b a register or a number.
func TestAlu(t *testing.T) {
	base := filled(t, 3, 1024)
	words := []uint32{0, 1, 2, 5, 31, 32, 33, 0x3fff, 0x7fffffff, 0x80000000, 0xffffc000, 0xfffffffe, 0xffffffff}
	for op := api.AlAdd; op <= api.AlEq; op++ {
		for _, a := range words {
			for _, b := range words {
				x := api.Inst{Op: api.OpAlu + op, Rd: l3, Rs1: i5, Rs2: o1}
				if b == uint32(int32(b)<<17>>17) {
					x.Rs2, x.Is, x.Imm = 0, true, int32(b)
				}
				r := base.copy()
				r.set(i5, a)
				r.set(o1, b)
				want, is := word.Do(op, a, b)
				if is {
					r.does(x, func(w *model) { *w.reg(l3) = want })
				} else {
					r.stops(x, api.Stop{Kind: api.StFault, V: api.FaDiv})
				}
			}
		}
	}
}

// P6.2: the operations by their numbers, without layer 1; sums and products that go beyond 2^32.
func TestAluByNumber(t *testing.T) {
	base := filled(t, 3, 1024)
	for _, x := range []struct {
		op         uint8
		a, b, want uint32
	}{
		{1, 3, 5, 8}, {1, 0xffffffff, 2, 1}, {2, 3, 5, 0xfffffffe}, {3, 7, 6, 42}, {3, 0x10001, 0x10001, 0x20001},
		{4, 0xfffffff9, 2, 0xfffffffd}, {4, 0x80000000, 0xffffffff, 0x80000000}, {5, 0xfffffff9, 2, 0xffffffff},
		{6, 12, 10, 8}, {7, 12, 10, 14}, {8, 12, 10, 6}, {9, 3, 33, 6}, {10, 0x80000000, 31, 1}, {11, 0x80000000, 31, 0xffffffff},
		{12, 0xffffffff, 1, 1}, {12, 1, 0xffffffff, 0}, {13, 0xffffffff, 1, 0}, {13, 1, 0xffffffff, 1}, {14, 5, 5, 1}, {14, 5, 6, 0},
	} {
		r := base.copy()
		r.set(g1, x.a)
		r.set(g2, x.b)
		r.does(api.Inst{Op: x.op, Rd: o1, Rs1: g1, Rs2: g2}, func(w *model) { *w.reg(o1) = x.want })
	}
}

// P6.2: rd, a and b that are one register, of each kind; two of them; and g0, which stays 0.
func TestSameRegisters(t *testing.T) {
	base := filled(t, 3, 1024)
	for reg := uint8(1); reg < 32; reg++ {
		r := base.copy()
		r.set(reg, 0x90000005)
		r.does(api.Inst{Op: api.OpAlu + api.AlAdd, Rd: reg, Rs1: reg, Rs2: reg}, func(w *model) { *w.reg(reg) = 0x2000000a })
		r.does(api.Inst{Op: api.OpAlu + api.AlSub, Rd: reg, Rs1: reg, Is: true, Imm: -1}, func(w *model) { *w.reg(reg) = 0x2000000b })
		r.does(api.Inst{Op: api.OpAlu + api.AlSub, Rd: reg, Rs1: 0, Rs2: reg}, func(w *model) { *w.reg(reg) = 0xdffffff5 })
		r.does(api.Inst{Op: api.OpAlu + api.AlXor, Rd: 0, Rs1: reg, Is: true, Imm: 1}, nothing)
		r.does(api.Inst{Op: api.OpAlu + api.AlAdd, Rd: reg, Rs1: 0, Rs2: 0}, func(w *model) { *w.reg(reg) = 0 })
	}
	for _, x := range []api.Inst{
		{Op: api.OpAlu + api.AlAdd, Rs1: g1, Rs2: g2}, {Op: api.OpSethi, Is: true, Imm: 7},
		{Op: api.OpLd, Is: true, Imm: 8}, {Op: api.OpLdb, Is: true, Imm: 9}, {Op: api.OpRdPsr}, {Op: api.OpRdWim},
	} {
		base.copy().does(x, nothing)
	}
	base.copy().stops(api.Inst{Op: api.OpAlu + api.AlRem, Rs1: g1}, api.Stop{Kind: api.StFault, V: api.FaDiv})
	base.copy().does(api.Inst{Op: api.OpJmpl, Is: true, Imm: 64}, func(w *model) { w.pc = 64 })
	base.copy().does(api.Inst{Op: api.OpChoice}, func(w *model) { w.choices = w.choices[1:] })
	base.copy().does(api.Inst{Op: api.OpSave, Rs1: g1, Rs2: g2}, func(w *model) { w.psr.Cwp = 1 })
	base.copy().does(api.Inst{Op: api.OpSt, Is: true, Imm: 8}, func(w *model) { w.store(8, 4, 0) })
	base.copy().does(api.Inst{Op: api.OpStb, Is: true, Imm: 8}, func(w *model) { w.store(8, 1, 0) })
}

// P6.2: registers are those of the current window and bank, in all of these.
func TestWindowsAndBanks(t *testing.T) {
	base := filled(t, 3, 1024)
	for window := range uint8(3) {
		for bank := range uint8(17) {
			r := base.copy()
			r.setPsr(api.Psr{Cwp: window, Bank: bank})
			sum := *r.want.at(window, bank, g1) + *r.want.at(window, bank, l4)
			r.does(api.Inst{Op: api.OpAlu + api.AlAdd, Rd: o2, Rs1: g1, Rs2: l4}, func(w *model) { *w.at(window, bank, o2) = sum })
			r.does(api.Inst{Op: api.OpAlu + api.AlAdd, Rd: g3, Rs1: o2, Is: true, Imm: 1}, func(w *model) { *w.at(window, bank, g3) = sum + 1 })
			r.does(api.Inst{Op: api.OpAlu + api.AlAdd, Rd: i5, Rs1: g3, Is: true, Imm: 1}, func(w *model) { *w.at(window, bank, i5) = sum + 2 })
		}
	}
}

// P6.2: OpSethi, with the least and the greatest numbers.
func TestSethi(t *testing.T) {
	base := filled(t, 3, 1024)
	for _, x := range []struct {
		imm  int32
		want uint32
	}{{0, 0}, {1, 0x800}, {2, 0x1000}, {0x2468a, 0x12345000}, {1 << 20, 0x80000000}, {1<<21 - 1, 0xfffff800}} {
		base.copy().does(api.Inst{Op: api.OpSethi, Rd: l3, Is: true, Imm: x.imm}, func(w *model) { *w.reg(l3) = x.want })
	}
}

// P6.2: OpCmp sets all flags, whatever they were, and nothing else.
func TestCompare(t *testing.T) {
	base := filled(t, 3, 1024)
	for _, x := range []struct {
		a, b uint32
		want uint8
	}{{3, 5, 9}, {5, 5, 4}, {0x80000000, 1, 2}, {5, 3, 0}, {0, 0x80000000, 11}, {0xffffffff, 1, 8}, {1, 0xffffffff, 1}} {
		for flags := range uint8(16) {
			r := base.copy()
			r.setPsr(api.Psr{Cwp: 1, Pil: 7, Bank: 4, Flags: flags})
			r.set(g1, x.a)
			r.set(i5, x.b)
			r.does(api.Inst{Op: api.OpCmp, Rs1: g1, Rs2: i5}, func(w *model) { w.psr.Flags = x.want })
		}
	}
	r := base.copy()
	r.set(g1, 0xfffffffe)
	r.does(api.Inst{Op: api.OpCmp, Rs1: g1, Is: true, Imm: -2}, func(w *model) { w.psr.Flags = 4 })
}

// P6.2: all conditions under all flags; a jump counts from the branch itself.
func TestBranch(t *testing.T) {
	base := filled(t, 3, 1024)
	for cond := range uint8(7) {
		for flags := range uint8(16) {
			for _, imm := range []int32{0, 1, 2, 64, -1, -64, -65, 1<<20 - 1, -1 << 20} {
				r := base.copy()
				r.setPsr(api.Psr{Cwp: 2, Flags: flags})
				r.does(api.Inst{Op: api.OpBr, Rd: cond, Is: true, Imm: imm}, func(w *model) {
					if word.Holds(cond, flags) {
						w.pc = 256 + 4*uint32(imm)
					}
				})
			}
		}
	}
}

// P6.2: a branch under its edges, without layer 1 and without the model's arithmetic.
func TestBranchByNumber(t *testing.T) {
	for _, x := range []struct {
		cond, flags uint8
		imm         int32
		want        uint32
	}{{0, 0, 3, 268}, {0, 15, -64, 0}, {0, 0, -65, 0xfffffffc}, {1, 4, 1, 260}, {1, 0, 5, 260}, {2, 0, 5, 276}, {2, 4, 5, 260}, {3, 8, 5, 276}, {3, 10, 5, 260}, {4, 10, 0, 256}, {5, 1, -1, 252}, {6, 1, -1, 260}} {
		r := filled(t, 3, 1024)
		r.setPsr(api.Psr{Flags: x.flags})
		r.does(api.Inst{Op: api.OpBr, Rd: x.cond, Is: true, Imm: x.imm}, func(w *model) { w.pc = x.want })
	}
}

// P6.2: OpCall leaves its own PC in o7 of the current window.
func TestCall(t *testing.T) {
	base := filled(t, 3, 1024)
	for window := range uint8(3) {
		for _, x := range []struct {
			imm  int32
			want uint32
		}{{0, 256}, {1, 260}, {-1, 252}, {-64, 0}, {-65, 0xfffffffc}, {1<<20 - 1, 256 + 4<<20 - 4}, {-1 << 20, 0xffc00100}} {
			r := base.copy()
			r.setPsr(api.Psr{Cwp: window})
			r.does(api.Inst{Op: api.OpCall, Is: true, Imm: x.imm}, func(w *model) { *w.at(window, 0, 15), w.pc = 256, x.want })
		}
	}
}

// P6.2: OpJmpl goes to the sum of a and b as they were before, also if rd is one of them; sums beyond 2^32.
func TestJump(t *testing.T) {
	base := filled(t, 3, 1024)
	for _, x := range []struct {
		rd, rs1, rs2 uint8
		a, b, want   uint32
	}{{o1, g1, l3, 64, 12, 76}, {g1, g1, l3, 64, 12, 76}, {l3, g1, l3, 64, 12, 76}, {l3, l3, l3, 64, 64, 128}, {0, g1, l3, 64, 12, 76}, {o1, g1, l3, 0xfffffff0, 0x20, 0x10}, {o1, g1, l3, 1, 2, 3}} {
		r := base.copy()
		r.set(x.rs1, x.a)
		r.set(x.rs2, x.b)
		r.does(api.Inst{Op: api.OpJmpl, Rd: x.rd, Rs1: x.rs1, Rs2: x.rs2}, func(w *model) { *w.reg(x.rd), w.pc = 256, x.want })
	}
	r := base.copy()
	r.set(15, 32)
	r.does(api.Inst{Op: api.OpJmpl, Rd: 15, Rs1: 15, Is: true, Imm: 4}, func(w *model) { *w.reg(15), w.pc = 256, 36 })
	r = base.copy()
	r.set(15, 2)
	r.does(api.Inst{Op: api.OpJmpl, Rs1: 15, Is: true, Imm: -4}, func(w *model) { w.pc = 0xfffffffe })
	// That PC has no word.
	r.step(0)
	r.holds("after a jump to no word")
	if r.m.Stop() != failed {
		t.Errorf("the stop is %v; want StError", r.m.Stop())
	}
}

// P6.2: OpSave and OpRestore, in all windows, with each window the invalid one: rd lies in the new window, a and b in the old one.
func TestSaveAndRestore(t *testing.T) {
	for _, nw := range []int{3, 4, 8, 32} {
		base := filled(t, nw, 512)
		for cwp := range uint8(nw) {
			for _, invalid := range []int{0, 1, nw - 1, int(cwp), (int(cwp) + 1) % nw, (int(cwp) + nw - 1) % nw} {
				r := base.copy()
				r.setPsr(api.Psr{Cwp: cwp, Pil: 3, Flags: 6})
				r.setInvalid(uint8(invalid))
				turns(r.copy(), api.OpSave, r.want.before(cwp), 272)
				turns(r.copy(), api.OpRestore, r.want.after(cwp), 288)
			}
		}
	}
}

// turns executes x, which goes to the window to, or traps, and then has its handler at vector.
func turns(r *rig, op, to uint8, vector uint32) {
	r.t.Helper()
	a, b := *r.want.reg(l3), *r.want.reg(o1)
	r.does(api.Inst{Op: op, Rd: l4, Rs1: l3, Rs2: o1}, func(w *model) {
		if to != w.invalid {
			w.psr.Cwp = to
			*w.at(to, 0, l4) = a + b
			return
		}
		w.tpc[16], w.tpsr[16] = 256, w.state()
		w.psr.Bank, w.pc = 16, vector
	})
}

// P6.2: rd by the name that it has in the new window, where it is also an operand by its name in the old one, and g0.
func TestSaveRegisters(t *testing.T) {
	base := filled(t, 4, 1024)
	for rd := range uint8(32) {
		for rs := range uint8(32) {
			r := base.copy()
			old := *r.want.reg(rs)
			r.does(api.Inst{Op: api.OpSave, Rd: rd, Rs1: rs, Is: true, Imm: -96}, func(w *model) {
				w.psr.Cwp = 1
				*w.at(1, 0, rd) = old - 96
			})
			old2 := *r.want.reg(rs)
			r.does(api.Inst{Op: api.OpRestore, Rd: rd, Rs1: rs, Rs2: rs}, func(w *model) {
				w.psr.Cwp = 2
				*w.at(2, 0, rd) = old2 + old2
			})
		}
	}
}

// P6.2: all around, from the first window on, both ways; the outs of one are the ins of the next one that is entered.
func TestAllAround(t *testing.T) {
	for _, nw := range []int{3, 5, 32} {
		r := filled(t, nw, 1024)
		r.setPsr(api.Psr{})
		r.setInvalid(1)
		for n := nw - 1; n > 1; n-- {
			r.does(api.Inst{Op: api.OpSave, Rd: 14, Rs1: 14, Is: true, Imm: -64}, func(w *model) {
				sp := *w.at(w.after(uint8(n)), 0, 14)
				if sp != *w.at(uint8(n), 0, 30) {
					t.Errorf("o6 is %x, i6 of the next one %x", sp, *w.at(uint8(n), 0, 30))
				}
				w.psr.Cwp = uint8(n)
				*w.reg(14) = sp - 64
			})
		}
		trapped := r.copy()
		trapped.does(api.Inst{Op: api.OpSave}, func(w *model) {
			w.tpc[16], w.tpsr[16], w.psr.Bank, w.pc = w.pc-4, 2, 16, 272
		})
		for n := 3; n <= nw; n++ {
			r.does(api.Inst{Op: api.OpRestore}, func(w *model) { w.psr.Cwp = uint8(n % nw) })
		}
		r.does(api.Inst{Op: api.OpRestore}, func(w *model) {
			w.tpc[16], w.tpsr[16], w.psr.Bank, w.pc = w.pc-4, 0, 16, 288
		})
	}
}

// P6.2: with two windows the previous one is the next one.
func TestTwoWindows(t *testing.T) {
	for cwp := range uint8(2) {
		for invalid := range uint8(2) {
			for _, op := range []uint8{api.OpSave, api.OpRestore} {
				r := newRig(t, 2, 1024)
				r.setPC(256)
				r.setPsr(api.Psr{Cwp: cwp})
				r.setInvalid(invalid)
				r.set(l3, 40)
				r.set(o1, 2)
				turns(r, op, 1-cwp, map[uint8]uint32{api.OpSave: 272, api.OpRestore: 288}[op])
			}
		}
	}
}

// P6.2: loads of words and bytes, at the edges of the memory; sums beyond 2^32; rd that is the address.
func TestLoads(t *testing.T) {
	base := filled(t, 3, 1024)
	base.store(64, 0x81828384)
	base.store(1020, 0xf1f2f3f4)
	base.store(0, 0xc1c2c3c4)
	for _, x := range []struct {
		op   uint8
		a    uint32
		imm  int32
		want uint32
	}{
		{api.OpLd, 64, 0, 0x81828384}, {api.OpLd, 60, 4, 0x81828384}, {api.OpLd, 68, -4, 0x81828384}, {api.OpLd, 0, 0, 0xc1c2c3c4}, {api.OpLd, 1020, 0, 0xf1f2f3f4},
		{api.OpLd, 0xfffffffc, 4, 0xc1c2c3c4}, {api.OpLd, 0xfffffff0, 80, 0x81828384}, {api.OpLd, 63, 1, 0x81828384},
		{api.OpLdb, 64, 0, 0x81}, {api.OpLdb, 64, 1, 0x82}, {api.OpLdb, 64, 2, 0x83}, {api.OpLdb, 64, 3, 0x84}, {api.OpLdb, 0, 0, 0xc1}, {api.OpLdb, 1023, 0, 0xf4}, {api.OpLdb, 0xffffffff, 1, 0xc1},
	} {
		r := base.copy()
		r.set(g1, x.a)
		r.set(g2, uint32(x.imm))
		for _, rd := range []uint8{l3, g1, g2} {
			r.copy().does(api.Inst{Op: x.op, Rd: rd, Rs1: g1, Is: true, Imm: x.imm}, func(w *model) { *w.reg(rd) = x.want })
			r.copy().does(api.Inst{Op: x.op, Rd: rd, Rs1: g1, Rs2: g2}, func(w *model) { *w.reg(rd) = x.want })
		}
	}
}

// P6.2: stores of words and bytes, at the edges of the memory; a register that is the address too.
func TestStores(t *testing.T) {
	base := filled(t, 3, 1024)
	for _, x := range []struct {
		op   uint8
		a    uint32
		imm  int32
		addr uint32
		many int
	}{
		{api.OpSt, 64, 0, 64, 4}, {api.OpSt, 60, 4, 64, 4}, {api.OpSt, 0, 0, 0, 4}, {api.OpSt, 1024, -4, 1020, 4}, {api.OpSt, 0xfffffffc, 4, 0, 4}, {api.OpSt, 3, 1, 4, 4},
		{api.OpStb, 64, 0, 64, 1}, {api.OpStb, 64, 1, 65, 1}, {api.OpStb, 64, 2, 66, 1}, {api.OpStb, 64, 3, 67, 1}, {api.OpStb, 0, 0, 0, 1}, {api.OpStb, 1024, -1, 1023, 1}, {api.OpStb, 0xffffffff, 1, 0, 1},
	} {
		r := base.copy()
		r.set(g1, x.a)
		r.set(g2, uint32(x.imm))
		r.set(l3, 0xdeadbef0)
		for _, rd := range []uint8{l3, g1, g2, i5} {
			n := *r.want.reg(rd)
			r.copy().does(api.Inst{Op: x.op, Rd: rd, Rs1: g1, Is: true, Imm: x.imm}, func(w *model) { w.store(x.addr, x.many, n) })
			r.copy().does(api.Inst{Op: x.op, Rd: rd, Rs1: g1, Rs2: g2}, func(w *model) { w.store(x.addr, x.many, n) })
		}
	}
}

// P6.2: what is stored is executed then.
func TestStoredInstruction(t *testing.T) {
	r := filled(t, 3, 1024)
	r.set(g1, code(t, api.Inst{Op: api.OpHalt, Rs1: g2}))
	r.set(g2, 77)
	r.does(api.Inst{Op: api.OpSt, Rd: g1, Is: true, Imm: 260}, func(w *model) { w.store(260, 4, *w.reg(g1)) })
	if s := r.m.Step(0); s != (api.Stop{Kind: api.StHalt, V: 77}) {
		t.Errorf("the stop is %v; want StHalt 77", s)
	}
}

// P6.2: addresses without a word, or without a byte.
func TestNoWordOrByte(t *testing.T) {
	base := filled(t, 3, 1024)
	for _, addr := range []uint32{1, 2, 3, 1021, 1022, 1023, 1024, 1025, 1028, 1 << 22, 1 << 31, 0x80000001, 0xfffffffc, 0xffffffff} {
		for _, op := range []uint8{api.OpLd, api.OpSt, api.OpLdb, api.OpStb} {
			if addr < 1024 && (op == api.OpLdb || op == api.OpStb) {
				continue
			}
			r := base.copy()
			r.set(g1, addr-8)
			r.set(l3, 0)
			r.stops(api.Inst{Op: op, Rd: l3, Rs1: g1, Is: true, Imm: 8}, failed)
		}
	}
}

// P6.2: OpRdPsr and OpWrPsr, of all states.
func TestStates(t *testing.T) {
	for _, nw := range []int{3, 32} {
		base := filled(t, nw, 512)
		for cwp := range uint8(nw) {
			for n := range 16 * 17 * 16 {
				if n%7 != int(cwp)%7 {
					continue
				}
				p := api.Psr{Cwp: cwp, Pil: uint8(n % 16), Bank: uint8(n / 16 % 17), Flags: uint8(n / 272)}
				w := uint32(p.Cwp) | uint32(p.Pil)<<5 | uint32(p.Bank)<<9 | uint32(p.Flags)<<14
				m := base.m.Copy()
				if e := m.SetPsr(p); e != api.OK {
					t.Fatalf("SetPsr(%v) = %d", p, e)
				}
				m.Mem().Put(256, []uint32{code(t, api.Inst{Op: api.OpRdPsr, Rd: l3}), code(t, api.Inst{Op: api.OpWrPsr, Is: true}), code(t, api.Inst{Op: api.OpWrPsr, Rs1: 2, Rs2: 3})})
				m.Step(0)
				if got, _ := m.File().Get(int(cwp), 0, l3); got != w || m.PC() != 260 {
					t.Fatalf("%d windows: OpRdPsr in %v gives %x, PC %d; want %x, 260", nw, p, got, m.PC(), w)
				}
				m.Step(0)
				if m.Psr() != (api.Psr{}) || m.PC() != 264 {
					t.Fatalf("%d windows: OpWrPsr of 0 in %v gives %v, PC %d", nw, p, m.Psr(), m.PC())
				}
				m.File().Set(0, 0, 2, w+0xffffff00)
				m.File().Set(0, 0, 3, 0x100)
				if s := m.Step(0); s != running || m.Psr() != p || m.PC() != 268 {
					t.Fatalf("%d windows: OpWrPsr of %x gives %v, %v, PC %d; want %v", nw, w, s, m.Psr(), m.PC(), p)
				}
			}
		}
	}
}

// P6.2: OpWrPsr of words that are no state's, and of the least and the greatest ones that are.
func TestNoStates(t *testing.T) {
	for _, nw := range []int{3, 8, 31, 32} {
		base := filled(t, nw, 512)
		for _, n := range []uint32{uint32(nw), uint32(nw) + 1, 31, 17 << 9, 18<<9 | 1, 31 << 9, 1 << 18, 1<<18 | 2, 1 << 31, 0xffffffff, 0x3ffff} {
			r := base.copy()
			r.set(g1, n-5)
			if _, is := stateOf(n, nw); !is {
				r.stops(api.Inst{Op: api.OpWrPsr, Rs1: g1, Is: true, Imm: 5}, failed)
			}
		}
		for _, p := range []api.Psr{{}, {Cwp: uint8(nw - 1), Pil: 15, Bank: 16, Flags: 15}, {Bank: 1}, {Flags: 8}} {
			n := uint32(p.Cwp) + uint32(p.Pil)<<5 + uint32(p.Bank)<<9 + uint32(p.Flags)<<14
			r := base.copy()
			r.set(g1, n-5)
			r.does(api.Inst{Op: api.OpWrPsr, Rs1: g1, Is: true, Imm: 5}, func(w *model) { w.psr = p })
		}
	}
}

// P6.2: OpRdWim and OpWrWim: one bit, of a window that there is; any other word is no WIM.
func TestWims(t *testing.T) {
	for _, nw := range []int{3, 4, 31, 32} {
		base := filled(t, nw, 512)
		for n := range 32 {
			r := base.copy()
			r.set(g1, 1<<n+3)
			x := api.Inst{Op: api.OpWrWim, Rs1: g1, Is: true, Imm: -3}
			if n >= nw {
				r.stops(x, failed)
				continue
			}
			r.does(x, func(w *model) { w.invalid = uint8(n) })
			r.does(api.Inst{Op: api.OpRdWim, Rd: i5}, func(w *model) { *w.reg(i5) = 1 << n })
		}
		for _, n := range []uint32{0, 3, 5, 7, 1<<(nw-1) | 1, 1<<31 | 1<<30, 0xffffffff} {
			r := base.copy()
			r.set(g1, n-0x100)
			r.set(l3, 0x100)
			r.stops(api.Inst{Op: api.OpWrWim, Rs1: g1, Rs2: l3}, failed)
		}
	}
}

// P6.2: the TPC and the TPSR of each bank; the Bank 0 has none. Any word can be written there.
func TestSaved(t *testing.T) {
	base := filled(t, 3, 1024)
	for bank := uint8(1); bank <= 16; bank++ {
		r := base.copy()
		r.setPsr(api.Psr{Cwp: 1, Bank: bank})
		r.does(api.Inst{Op: api.OpRdT, Rd: l3, Is: true}, func(w *model) { *w.reg(l3) = 0x10000000 + uint32(bank) })
		r.does(api.Inst{Op: api.OpRdT, Rd: g2, Is: true, Imm: 1}, func(w *model) { *w.reg(g2) = 0x20000000 + uint32(bank) })
		for _, n := range []uint32{0, 3, 0x12345678, 0xffffffff} {
			r.set(o1, n)
			r.does(api.Inst{Op: api.OpWrT, Rs1: o1, Is: true}, func(w *model) { w.tpc[bank] = n })
			r.does(api.Inst{Op: api.OpWrT, Rs1: o1, Is: true, Imm: 1}, func(w *model) { w.tpsr[bank] = n })
			r.does(api.Inst{Op: api.OpWrT, Is: true}, func(w *model) { w.tpc[bank] = 0 })
		}
	}
	for imm := range int32(2) {
		base.copy().stops(api.Inst{Op: api.OpRdT, Rd: l3, Is: true, Imm: imm}, failed)
		base.copy().stops(api.Inst{Op: api.OpWrT, Rs1: o1, Is: true, Imm: imm}, failed)
	}
}

// P6.2: OpRett, of each bank, to states and PCs of all kinds; a TPSR that is no state's; the Bank 0.
func TestRett(t *testing.T) {
	base := filled(t, 3, 1024)
	for bank := uint8(1); bank <= 16; bank++ {
		for _, p := range []api.Psr{{}, {Cwp: 1, Pil: 4, Bank: bank, Flags: 15}, {Cwp: 2, Pil: 15, Bank: 16, Flags: 2}, {Bank: bank % 16}} {
			for _, pc := range []uint32{0, 40, 3, 0xfffffffe} {
				r := base.copy()
				r.setT(bank, pc, uint32(p.Cwp)+32*uint32(p.Pil)+512*uint32(p.Bank)+16384*uint32(p.Flags))
				r.setPsr(api.Psr{Cwp: 1, Pil: 9, Bank: bank, Flags: 4})
				r.does(api.Inst{Op: api.OpRett}, func(w *model) { w.psr, w.pc = p, pc })
			}
		}
		for _, n := range []uint32{3, 31, 17 << 9, 1 << 18, 0xffffffff} {
			r := base.copy()
			r.setT(bank, 40, n)
			r.setPsr(api.Psr{Bank: bank})
			r.stops(api.Inst{Op: api.OpRett}, failed)
		}
	}
	base.copy().stops(api.Inst{Op: api.OpRett}, failed)
}

// P6.2: OpTrap goes on behind itself, later; Pil and the flags stay.
func TestTraps(t *testing.T) {
	base := filled(t, 3, 1024)
	for cwp := range uint8(3) {
		for pil := range uint8(16) {
			for _, imm := range []int32{3, 4} {
				r := base.copy()
				p := api.Psr{Cwp: cwp, Pil: pil, Flags: pil ^ 5}
				r.setPsr(p)
				r.does(api.Inst{Op: api.OpTrap, Is: true, Imm: imm}, func(w *model) {
					w.tpc[16], w.tpsr[16] = 260, uint32(cwp)+32*uint32(pil)+16384*uint32(pil^5)
					w.pc, w.psr.Bank = 256+16*uint32(imm), 16
				})
			}
		}
	}
}

// P6.2: a trap to the bank 16 while the Bank is not 0, also by a window that is invalid; one that is valid is no matter.
func TestTrapsInBanks(t *testing.T) {
	base := filled(t, 4, 1024)
	for bank := uint8(1); bank <= 16; bank++ {
		r := base.copy()
		r.setPsr(api.Psr{Cwp: 2, Pil: 1, Bank: bank})
		r.copy().stops(api.Inst{Op: api.OpTrap, Is: true, Imm: 3}, failed)
		r.copy().stops(api.Inst{Op: api.OpTrap, Is: true, Imm: 4}, failed)
		r.copy().does(api.Inst{Op: api.OpSave, Rd: l3}, func(w *model) { w.psr.Cwp, *w.at(1, bank, l3) = 1, 0 })
		r.copy().does(api.Inst{Op: api.OpRestore, Rd: l3}, func(w *model) { w.psr.Cwp, *w.at(3, bank, l3) = 3, 0 })
		r.setInvalid(1)
		r.copy().stops(api.Inst{Op: api.OpSave, Rd: l3}, failed)
		r.setInvalid(3)
		r.copy().stops(api.Inst{Op: api.OpRestore, Rd: l3}, failed)
	}
}

// P6.2: choices are taken one by one, and are 0 when there are no more.
func TestChoices(t *testing.T) {
	r := filled(t, 3, 1024)
	r.choose(7, 0, 0xffffffff)
	for _, want := range []uint32{7, 0, 0xffffffff, 0, 0} {
		r.set(l3, 1)
		r.does(api.Inst{Op: api.OpChoice, Rd: l3}, func(w *model) {
			*w.reg(l3) = want
			if len(w.choices) > 0 {
				w.choices = w.choices[1:]
			}
		})
	}
	r.choose(9)
	r.does(api.Inst{Op: api.OpChoice, Rd: g1}, func(w *model) { *w.reg(g1), w.choices = 9, nil })
}

// P6.2: the output is what OpOut appended, in its order.
func TestOutput(t *testing.T) {
	r := newRig(t, 3, 4096)
	for i := range uint32(100) {
		r.set(g1, i*0x01010101)
		r.does(api.Inst{Op: api.OpOut, Rs1: g1}, func(w *model) { w.out = append(w.out, i*0x01010101) })
	}
	r.does(api.Inst{Op: api.OpOut}, func(w *model) { w.out = append(w.out, 0) })
}

// P6.2: OpHalt and OpFault change nothing but the stop.
func TestHaltAndFault(t *testing.T) {
	base := filled(t, 3, 1024)
	for _, n := range []uint32{0, 1, 5, 0x80000000, 0xffffffff} {
		r := base.copy()
		r.set(i5, n)
		r.stops(api.Inst{Op: api.OpHalt, Rs1: i5}, api.Stop{Kind: 1, V: n})
	}
	base.copy().stops(api.Inst{Op: api.OpHalt}, api.Stop{Kind: 1, V: 0})
	for imm := int32(1); imm <= 3; imm++ {
		base.copy().stops(api.Inst{Op: api.OpFault, Is: true, Imm: imm}, api.Stop{Kind: 2, V: uint32(imm)})
	}
}

// P6.2: all levels, also those that are none, against all of Pil, in all banks.
func TestLevels(t *testing.T) {
	base := filled(t, 3, 1024)
	base.store(256, code(t, api.Inst{Op: api.OpHalt, Rs1: g1}))
	for pil := range uint8(16) {
		for bank := range uint8(17) {
			r := base.copy()
			r.setPsr(api.Psr{Cwp: 1, Pil: pil, Bank: bank, Flags: 3})
			was := r.want.state()
			for _, level := range []uint8{0, 1, pil - 1, pil, pil + 1, 14, 15, 16, 17, 31, 32, 128, 255} {
				c := r.copy()
				if level <= pil || level > 15 {
					c.want.stop = api.Stop{Kind: api.StHalt, V: *c.want.reg(g1)}
				} else {
					c.want.tpc[level], c.want.tpsr[level] = 256, was
					c.want.psr = api.Psr{Cwp: 1, Pil: level, Bank: level, Flags: 3}
					c.want.pc = 512 + 16*uint32(level)
				}
				c.m.Step(level)
				c.holds(level)
			}
		}
	}
}

// P6.2: an interrupt is taken at any PC, also at one without an instruction; of a machine without a memory too.
func TestIrqAnywhere(t *testing.T) {
	for _, size := range []int{0, 4, 512} {
		for _, pc := range []uint32{0, 1, 2, 40, 512, 0xfffffffc, 0xffffffff} {
			r := newRig(t, 2, size)
			r.setPC(pc)
			r.want.tpc[15] = pc
			r.want.psr = api.Psr{Pil: 15, Bank: 15}
			r.want.pc = 752
			r.m.Step(15)
			r.holds(pc)
		}
	}
}

// P6.2: a window trap, or an OpTrap, ahead of which an interrupt is taken, is not executed.
func TestIrqAheadOfTraps(t *testing.T) {
	for _, x := range []api.Inst{{Op: api.OpSave}, {Op: api.OpTrap, Is: true, Imm: 3}, {Op: api.OpHalt}, {Op: api.OpRett}} {
		r := newRig(t, 2, 1024)
		r.store(0, code(t, x))
		r.step(1)
		r.holds(x)
		if pc, _, _ := r.m.T(16); pc != 0 || r.m.PC() != 528 || r.m.Stop() != running {
			t.Errorf("%v: PC %d, stop %v", x, r.m.PC(), r.m.Stop())
		}
	}
}

// P6.2: PCs without a word.
func TestNoWord(t *testing.T) {
	halt := code(t, api.Inst{Op: api.OpHalt})
	for _, size := range []int{0, 4, 1024} {
		for _, pc := range []uint32{1, 2, 3, uint32(size) - 3, uint32(size) - 2, uint32(size) - 1, uint32(size), uint32(size) + 4, 1 << 22, 1 << 31, 0xfffffffc, 0xffffffff} {
			r := newRig(t, 2, size)
			for addr := range uint32(size / 4) {
				r.store(4*addr, halt)
			}
			r.setPC(pc)
			r.want.stop = failed
			if s := r.m.Step(0); s != failed {
				t.Errorf("%d bytes: the stop at the PC %x is %v; want StError", size, pc, s)
			}
			r.holds(pc)
		}
	}
	r := newRig(t, 2, 1024)
	r.setPC(1020)
	r.does(api.Inst{Op: api.OpAlu + api.AlAdd}, nothing)
	r.step(0)
	r.holds("behind the last word")
	if r.m.Stop() != failed || r.m.PC() != 1024 {
		t.Errorf("behind the last word: %v at %d; want StError at 1024", r.m.Stop(), r.m.PC())
	}
}

// P6.2: words of no instruction.
func TestNoInstruction(t *testing.T) {
	base := filled(t, 3, 1024)
	for _, n := range []uint32{0, 1, 0x03ffffff, 0x80000001, 0x98000000, 0xffffffff, 0x84008005, 0x00000020} {
		if x, is := inst.Decode(n); is {
			t.Fatalf("%x is the word of %v", n, x)
		}
		r := base.copy()
		r.store(256, n)
		r.want.stop = failed
		if s := r.m.Step(0); s != failed {
			t.Errorf("the word %x: %v; want StError", n, s)
		}
		r.holds(n)
	}
}

// P6.4: no step changes a machine that has stopped, whatever is at its PC, and whatever the level.
func TestStoppedStays(t *testing.T) {
	base := filled(t, 3, 1024)
	for _, x := range []struct {
		x api.Inst
		s api.Stop
	}{
		{api.Inst{Op: api.OpHalt}, api.Stop{Kind: api.StHalt}},
		{api.Inst{Op: api.OpFault, Is: true, Imm: 2}, api.Stop{Kind: api.StFault, V: 2}},
		{api.Inst{Op: api.OpRett}, api.Stop{Kind: api.StError}},
	} {
		r := base.copy()
		r.stops(x.x, x.s)
		r.setPC(512)
		r.setPsr(api.Psr{})
		r.setInvalid(2)
		for _, y := range []api.Inst{{Op: api.OpAlu + api.AlAdd, Rd: g1, Is: true, Imm: 1}, {Op: api.OpOut, Rs1: g1}, {Op: api.OpSave}, {Op: api.OpHalt, Rs1: g1}, {Op: api.OpTrap, Is: true, Imm: 3}, {Op: api.OpChoice, Rd: g1}, {Op: api.OpBr, Is: true, Imm: 4}} {
			r.store(512, code(t, y))
			for _, level := range []uint8{0, 1, 15, 16} {
				if s := r.m.Step(level); s != x.s {
					t.Errorf("Step(%d) of a machine that has stopped = %v; want %v", level, s, x.s)
				}
				r.holds(y)
			}
		}
		c := r.copy()
		if s := c.m.Step(15); s != x.s {
			t.Errorf("a copy's Step = %v; want %v", s, x.s)
		}
		c.holds("a copy that has stopped")
	}
}

// P6.5: an interrupt at any level and PC, in any state, and OpRett at once.
func TestIrqAndRett(t *testing.T) {
	base := filled(t, 3, 1024)
	for level := uint32(1); level <= 15; level++ {
		base.store(512+16*level, code(t, api.Inst{Op: api.OpRett}))
	}
	for level := uint8(1); level <= 15; level++ {
		for pil := range level {
			for bank := range uint8(17) {
				r := base.copy()
				p := api.Psr{Cwp: pil % 3, Pil: pil, Bank: bank, Flags: bank % 16}
				pc := uint32(level)<<20 + uint32(pil)<<8 + uint32(bank)
				r.setPsr(p)
				r.setPC(pc)
				word := r.want.state()
				r.m.Step(level)
				if s := r.m.Step(0); s != running {
					t.Fatalf("level %d in %v: %v", level, p, s)
				}
				r.want.tpc[level], r.want.tpsr[level] = pc, word
				r.holds(p)
			}
		}
	}
}

// P6.5: interrupts that are taken in the handlers of others.
func TestIrqsNested(t *testing.T) {
	r := filled(t, 3, 1024)
	r.setPsr(api.Psr{Cwp: 1, Flags: 7})
	for level := uint32(1); level <= 15; level++ {
		r.store(512+16*level, code(t, api.Inst{Op: api.OpRett}))
	}
	pc, state := r.want.pc, r.want.state()
	for level := uint8(1); level <= 15; level++ {
		r.want.tpc[level], r.want.tpsr[level] = pc, state
		pc = 512 + 16*uint32(level)
		state = 1 + 7<<14 + 32*uint32(level) + 512*uint32(level)
		r.m.Step(level)
	}
	for range 15 {
		r.m.Step(0)
	}
	r.holds("all have returned")
}

// random produces words that are always the same ones.
type random uint32

func (s *random) next() uint32 {
	*s ^= *s << 13
	*s ^= *s >> 17
	*s ^= *s << 5
	return uint32(*s)
}

func (s *random) below(n int) int { return int(s.next()>>8) % n }

func (s *random) of(l ...uint32) uint32 { return l[s.below(len(l))] }

// instruction returns a valid instruction. Its registers are few, so that they meet; its numbers are small, or at an edge.
func (s *random) instruction() api.Inst {
	for {
		x := api.Inst{
			Op: uint8(1 + s.below(int(api.OpFault))), Is: s.below(2) == 0,
			Rd:  uint8(s.of(0, 1, 1, 2, 3, 8, 14, 15, 16, 24, 30, 31)),
			Rs1: uint8(s.of(0, 1, 1, 2, 3, 8, 14, 15, 16, 24, 30, 31)),
			Rs2: uint8(s.of(0, 1, 1, 2, 3, 8, 14, 15, 16, 24, 30, 31)),
			Imm: int32(s.of(0, 1, 1, 2, 3, 4, 4, 8, 12, 16, 64, 256, 1<<14-1, 1<<20-1, ^uint32(0), ^uint32(3), ^uint32(7), ^uint32(1<<14-1))),
		}
		// Fields that an Op does not have are 0: one after the other is left out until it is valid.
		for _, y := range []api.Inst{x, {Op: x.Op, Rd: x.Rd, Rs1: x.Rs1, Rs2: x.Rs2}, {Op: x.Op, Rd: x.Rd, Rs1: x.Rs1, Is: true, Imm: x.Imm}, {Op: x.Op, Rs1: x.Rs1, Rs2: x.Rs2}, {Op: x.Op, Rs1: x.Rs1, Is: true, Imm: x.Imm}, {Op: x.Op, Rd: x.Rd, Is: true, Imm: x.Imm}, {Op: x.Op, Is: true, Imm: x.Imm}, {Op: x.Op, Rd: x.Rd}, {Op: x.Op, Rs1: x.Rs1}, {Op: x.Op}} {
			if _, e := inst.Encode(y); e == api.OK {
				return y
			}
		}
	}
}

// word is one that an instruction could need: an address, a state's word, a WIM, or any.
func (s *random) word(r *rig) uint32 {
	switch s.below(6) {
	case 0:
		return s.next()
	case 1:
		return 1 << s.below(r.want.nw+1)
	case 2:
		return uint32(s.below(r.want.nw+1)) + 32*uint32(s.below(16)) + 512*uint32(s.below(18)) + 16384*uint32(s.below(17))
	case 3:
		return uint32(s.below(len(r.want.bytes) + 8))
	}
	return 4 * uint32(s.below(len(r.want.bytes)/4+1))
}

// P6.2 to P6.4: long sequences of all instructions, of interrupts, and of all that sets a part, on machines of which one takes the place of another that has stopped.
func TestSequences(t *testing.T) {
	s := random(2463534242)
	stops, ops := map[api.Stop]int{}, map[uint8]int{}
	for _, nw := range []int{3, 4, 7, 32} {
		r := filled(t, nw, 512)
		for step := range 3000 {
			x := s.instruction()
			if r.want.has(r.want.pc, 4) && s.below(16) > 0 {
				r.store(r.want.pc, code(t, x))
			}
			before := r.copy()
			r.set(uint8(s.of(1, 2, 3, 8, 14, 16, 24)), s.word(r))
			level := uint8(0)
			if s.below(8) == 0 {
				level = uint8(s.below(20))
			}
			r.step(level)
			ops[x.Op]++
			if step%16 == 0 || r.want.stop.Kind != api.StRun {
				r.holds(step)
			}
			if r.want.stop.Kind != api.StRun {
				stops[api.Stop{Kind: r.want.stop.Kind}]++
				r.step(15)
				r.holds("stopped")
				r = before
				r.holds("the one that has not stopped")
			}
			if s.below(8) == 0 {
				s.sets(r)
			}
		}
	}
	if len(ops) != int(api.OpFault) || len(stops) != 3 {
		t.Errorf("only %d Ops and %d kinds of stops were tried", len(ops), len(stops))
	}
}

// sets sets one of the parts that a caller can set.
func (s *random) sets(r *rig) {
	r.t.Helper()
	switch s.below(5) {
	case 0:
		r.setPC(4 * uint32(s.below(len(r.want.bytes)/4)))
	case 1:
		r.setPsr(api.Psr{Cwp: uint8(s.below(r.want.nw)), Pil: uint8(s.below(16)), Bank: uint8(s.below(2) * s.below(17)), Flags: uint8(s.below(16))})
	case 2:
		r.setInvalid(uint8(s.below(r.want.nw)))
	case 3:
		r.choose(slices.Repeat([]uint32{s.next(), s.next()}, s.below(3))...)
	case 4:
		r.store(4*uint32(s.below(len(r.want.bytes)/4)), s.next())
	}
}

// P6.4: machines of equal parts do the same, however they came to these.
func TestSameParts(t *testing.T) {
	s := random(88172645)
	for range 20 {
		// Two steps that fill the output and change registers; the TPCs and TPSRs stay 0, as nobody can set them.
		r := newRig(t, 5, 1024)
		r.store(0, code(t, api.Inst{Op: api.OpAlu + api.AlAdd, Rd: l3, Is: true, Imm: 7}))
		r.store(4, code(t, api.Inst{Op: api.OpSethi, Rd: i5, Is: true, Imm: 7}))
		r.step(0)
		r.step(0)
		for i := range uint32(256) {
			r.store(4*i, code(t, s.instruction()))
		}
		s.sets(r)
		r.choose(1, 2, 3)
		other := twin(r)
		for range 50 {
			level := uint8(s.below(3) * s.below(16))
			r.want.step(level)
			if a, b := r.m.Step(level), other.m.Step(level); a != b {
				t.Fatalf("machines of equal parts came apart: %v at %d, %v at %d", a, r.m.PC(), b, other.m.PC())
			}
		}
		r.holds("the one")
		other.want = r.want
		other.holds("the other one")
	}
}

// twin returns another machine of the same parts, for as far as they can be set.
func twin(r *rig) *rig {
	other := newRig(r.t, r.want.nw, len(r.want.bytes))
	l, _ := r.m.Mem().Words(0, len(r.want.bytes)/4)
	r.ok(other.m.Load(l))
	r.ok(other.m.SetPC(r.m.PC()))
	r.ok(other.m.SetPsr(r.m.Psr()))
	r.ok(other.m.SetWim(r.m.Wim()))
	r.ok(other.m.Choose(r.want.choices))
	for window := range r.want.nw {
		own, _ := r.m.File().Window(window)
		r.ok(other.m.File().Put(window, own))
	}
	for bank := range 17 {
		for reg := range 8 {
			n, _ := r.m.File().Get(0, bank, reg)
			r.ok(other.m.File().Set(0, bank, reg, n))
		}
	}
	return other
}
