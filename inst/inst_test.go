package inst_test

import (
	"testing"

	"muntin/api"
	"muntin/inst"
)

// row is a row of the chapter's table, with Ops as plain numbers: rd, rs1 and rs2 are how many values the field can have (1: it is not used); with rs2 and num the second operand is Rs2 or Imm, with num alone Is is true.
type row struct {
	ops       []uint8
	rd, rs1   int64
	rs2       int64
	num       bool
	low, high int64
	wide      bool
}

func rows() []row {
	const k16, k2m = 1 << 14, 1 << 20
	return []row{
		{ops: []uint8{1, 2, 3, 4, 5, 6, 7, 8, 9, 10, 11, 12, 13, 14, 20, 21, 19, 22, 24, 23, 25}, rd: 32, rs1: 32, rs2: 32, num: true, low: -k16, high: k16 - 1},
		{ops: []uint8{16, 27, 29}, rd: 1, rs1: 32, rs2: 32, num: true, low: -k16, high: k16 - 1},
		{ops: []uint8{15}, rd: 32, rs1: 1, rs2: 1, num: true, low: 0, high: 2*k2m - 1, wide: true},
		{ops: []uint8{17}, rd: 7, rs1: 1, rs2: 1, num: true, low: -k2m, high: k2m - 1, wide: true},
		{ops: []uint8{18}, rd: 1, rs1: 1, rs2: 1, num: true, low: -k2m, high: k2m - 1, wide: true},
		{ops: []uint8{26, 28, 34}, rd: 32, rs1: 1, rs2: 1},
		{ops: []uint8{30}, rd: 32, rs1: 1, rs2: 1, num: true, low: 0, high: 1},
		{ops: []uint8{31}, rd: 1, rs1: 32, rs2: 1, num: true, low: 0, high: 1},
		{ops: []uint8{33}, rd: 1, rs1: 1, rs2: 1, num: true, low: 3, high: 4},
		{ops: []uint8{35, 36}, rd: 1, rs1: 32, rs2: 1},
		{ops: []uint8{37}, rd: 1, rs1: 1, rs2: 1, num: true, low: 1, high: 3},
		{ops: []uint8{32}, rd: 1, rs1: 1, rs2: 1},
	}
}

// byOp is the table by Ops; an Op that does not exist has a row without Ops.
func byOp() []row {
	l := make([]row, 256)
	for _, r := range rows() {
		for _, op := range r.ops {
			l[op] = r
		}
	}
	return l
}

// isValid is what the chapter says of fields.
func isValid(table []row, x api.Inst) bool {
	r := &table[x.Op]
	if len(r.ops) == 0 || int64(x.Rd) >= r.rd || int64(x.Rs1) >= r.rs1 {
		return false
	}
	if x.Is {
		return r.num && x.Rs2 == 0 && r.low <= int64(x.Imm) && int64(x.Imm) <= r.high
	}
	mayLackIs := !r.num || r.rs2 > 1
	return mayLackIs && int64(x.Rs2) < r.rs2 && x.Imm == 0
}

// wordOf is the word of a valid instruction, by places of its parts in a number.
func wordOf(table []row, x api.Inst) uint32 {
	n := int64(x.Op)*(1<<26) + int64(x.Rd)*(1<<21)
	if table[x.Op].wide {
		return uint32(n + (int64(x.Imm)+1<<21)%(1<<21))
	}
	n += int64(x.Rs1) * (1 << 16)
	if x.Is {
		return uint32(n + 1<<15 + (int64(x.Imm)+1<<15)%(1<<15))
	}
	return uint32(n + int64(x.Rs2))
}

// instructionOf looks for the valid instruction of w among all that its parts could be.
func instructionOf(table []row, w uint32) (api.Inst, bool) {
	n := int64(w)
	op, rd, rs1, rs2 := uint8(n/(1<<26)), uint8(n/(1<<21)%32), uint8(n/(1<<16)%32), uint8(n%32)
	short, wide := int32(n%(1<<15)), int32(n%(1<<21))
	for _, x := range []api.Inst{
		{Op: op, Rd: rd, Rs1: rs1, Rs2: rs2},
		{Op: op, Rd: rd, Rs1: rs1, Is: true, Imm: short},
		{Op: op, Rd: rd, Rs1: rs1, Is: true, Imm: short - 1<<15},
		{Op: op, Rd: rd, Is: true, Imm: wide},
		{Op: op, Rd: rd, Is: true, Imm: wide - 1<<21},
	} {
		if isValid(table, x) && wordOf(table, x) == w {
			return x, true
		}
	}
	return api.Inst{}, false
}

// numbers returns the edges of every range of Imm, and what is just beyond them.
func numbers() []int32 {
	l := []int32{-1 << 31, -1<<31 + 1, 1<<31 - 1, 1 << 15, 1<<15 - 1, -1 << 15, 6, 7, 100, -100}
	for _, edge := range []int32{0, 1, 3, 4, -1 << 14, 1<<14 - 1, -1 << 20, 1<<20 - 1, 1<<21 - 1} {
		l = append(l, edge-1, edge, edge+1)
	}
	return l
}

func registers() []uint8 { return []uint8{0, 1, 6, 7, 31, 32, 255} }

// eachInstruction goes through instructions of all Ops, valid and not.
func eachInstruction(f func(x api.Inst)) {
	for op := range 256 {
		for _, rd := range registers() {
			for _, rs1 := range registers() {
				for _, rs2 := range registers() {
					for _, imm := range numbers() {
						f(api.Inst{Op: uint8(op), Rd: rd, Rs1: rs1, Rs2: rs2, Imm: imm})
						f(api.Inst{Op: uint8(op), Rd: rd, Rs1: rs1, Rs2: rs2, Is: true, Imm: imm})
					}
				}
			}
		}
	}
}

// eachValid goes through valid instructions of every Op that exists.
func eachValid(f func(x api.Inst)) {
	table := byOp()
	eachInstruction(func(x api.Inst) {
		if isValid(table, x) {
			f(x)
		}
	})
}

// eachWord goes through words with every Op, Rd, Rs1 and Is, and with the edges of what is below them.
func eachWord(f func(w uint32)) {
	lasts := []uint32{0, 1, 2, 3, 4, 5, 30, 31, 32, 33, 63, 0x1234, 0x3fe0, 0x3fff, 0x4000, 0x4001, 0x5555, 0x7fe0, 0x7ffe, 0x7fff}
	for i := range 15 {
		lasts = append(lasts, 1<<i)
	}
	for top := range uint32(1 << 17) {
		for _, last := range lasts {
			f(top<<15 | last)
		}
	}
}

func refused(t *testing.T, x api.Inst) {
	if w, e := inst.Encode(x); w != 0 || e != api.ErrArg {
		t.Helper()
		t.Errorf("Encode(%v) = %08x, %d; want 0, ErrArg", x, w, e)
	}
}

func none(t *testing.T, w uint32) {
	t.Helper()
	if x, is := inst.Decode(w); is || x != (api.Inst{}) {
		t.Errorf("Decode(%08x) = %v, %v; want none", w, x, is)
	}
}

// P2.1, P2.2: the chapter's examples.
func TestExamples(t *testing.T) {
	for _, x := range []struct {
		x api.Inst
		w uint32
	}{
		{api.Inst{Op: api.OpAlu + api.AlAdd, Rd: 9, Rs1: 8, Is: true, Imm: -1}, 0x0528ffff},
		{api.Inst{Op: api.OpAlu + api.AlSub, Rd: 1, Rs1: 2, Rs2: 3}, 0x08220003},
		{api.Inst{Op: api.OpSethi, Rd: 5, Is: true, Imm: 1}, 0x3ca00001},
		{api.Inst{Op: api.OpBr, Rd: api.CoNe, Is: true, Imm: -2}, 0x445ffffe},
		{api.Inst{Op: api.OpRett}, 0x80000000},
		{api.Inst{Op: api.OpTrap, Is: true, Imm: 3}, 0x84008003},
	} {
		if w, e := inst.Encode(x.x); w != x.w || e != api.OK {
			t.Errorf("Encode(%v) = %08x, %d; want %08x, OK", x.x, w, e, x.w)
		}
		if back, is := inst.Decode(x.w); back != x.x || !is {
			t.Errorf("Decode(%08x) = %v, %v; want %v, true", x.w, back, is, x.x)
		}
	}
	refused(t, api.Inst{Op: api.OpTrap, Is: true, Imm: 5})
	refused(t, api.Inst{Op: api.OpRett, Rd: 1})
	none(t, 1)
}

// P2.1: where each field is in a word, and that the highest values of one do not reach into another.
func TestPlacesOfFields(t *testing.T) {
	for _, x := range []struct {
		x api.Inst
		w uint32
	}{
		{api.Inst{Op: 1}, 0x04000000},
		{api.Inst{Op: 1, Rd: 31}, 0x07e00000},
		{api.Inst{Op: 1, Rs1: 31}, 0x041f0000},
		{api.Inst{Op: 1, Rs2: 31}, 0x0400001f},
		{api.Inst{Op: 1, Is: true}, 0x04008000},
		{api.Inst{Op: 1, Is: true, Imm: 1<<14 - 1}, 0x0400bfff},
		{api.Inst{Op: 1, Is: true, Imm: -1 << 14}, 0x0400c000},
		{api.Inst{Op: 25, Rd: 31, Rs1: 31, Rs2: 31}, 0x67ff001f},
		{api.Inst{Op: 25, Rd: 31, Rs1: 31, Is: true, Imm: -1}, 0x67ffffff},
		{api.Inst{Op: 15, Is: true}, 0x3c000000},
		{api.Inst{Op: 15, Rd: 31, Is: true, Imm: 1<<21 - 1}, 0x3fffffff},
		{api.Inst{Op: 17, Rd: 6, Is: true, Imm: 1<<20 - 1}, 0x44cfffff},
		{api.Inst{Op: 18, Is: true, Imm: -1}, 0x481fffff},
		{api.Inst{Op: 18, Is: true, Imm: -1 << 20}, 0x48100000},
		{api.Inst{Op: 30, Rd: 31, Is: true, Imm: 1}, 0x7be08001},
		{api.Inst{Op: 31, Rs1: 31, Is: true}, 0x7c1f8000},
		{api.Inst{Op: 36, Rs1: 31}, 0x901f0000},
		{api.Inst{Op: 37, Is: true, Imm: 3}, 0x94008003},
	} {
		if w, e := inst.Encode(x.x); w != x.w || e != api.OK {
			t.Errorf("Encode(%v) = %08x, %d; want %08x, OK", x.x, w, e, x.w)
		}
		if back, is := inst.Decode(x.w); back != x.x || !is {
			t.Errorf("Decode(%08x) = %v, %v; want %v, true", x.w, back, is, x.x)
		}
	}
}

// P2.1, R3: all Ops, with fields that are valid and not.
func TestEncodeAsTheTableSays(t *testing.T) {
	table := byOp()
	var valid [256]int
	eachInstruction(func(x api.Inst) {
		if !isValid(table, x) {
			refused(t, x)
			return
		}
		valid[x.Op]++
		if w, e := inst.Encode(x); w != wordOf(table, x) || e != api.OK {
			t.Errorf("Encode(%v) = %08x, %d; want %08x, OK", x, w, e, wordOf(table, x))
		}
	})
	for op := uint8(1); op <= 37; op++ {
		if valid[op] == 0 {
			t.Errorf("no valid instruction of Op %d was tried", op)
		}
	}
}

// P2.1: a field that an Op does not use is 0.
func TestFieldNotUsed(t *testing.T) {
	table := byOp()
	eachValid(func(x api.Inst) {
		r := table[x.Op]
		for _, junk := range []uint8{1, 31, 32, 255} {
			y := x
			if y.Rd = junk; r.rd == 1 {
				refused(t, y)
			}
			y = x
			if y.Rs1 = junk; r.rs1 == 1 {
				refused(t, y)
			}
			y = x
			if y.Rs2 = junk; r.rs2 == 1 || x.Is {
				refused(t, y)
			}
		}
		for _, junk := range []int32{1, -1, 3, 1 << 15, -1 << 31} {
			y := x
			if y.Imm = junk; !x.Is {
				refused(t, y)
			}
		}
	})
}

// P2.1: a register is at most 31, and a condition at most 6.
func TestRegisterBeyondTheLast(t *testing.T) {
	table := byOp()
	eachValid(func(x api.Inst) {
		r := table[x.Op]
		for _, more := range []uint8{32, 33, 64, 128, 255} {
			for _, y := range []api.Inst{
				{Op: x.Op, Rd: more, Rs1: x.Rs1, Rs2: x.Rs2, Is: x.Is, Imm: x.Imm},
				{Op: x.Op, Rd: x.Rd, Rs1: more, Rs2: x.Rs2, Is: x.Is, Imm: x.Imm},
				{Op: x.Op, Rd: x.Rd, Rs1: x.Rs1, Rs2: more, Is: x.Is, Imm: x.Imm},
			} {
				refused(t, y)
			}
		}
		if x.Rd = 7; r.rd == 7 {
			refused(t, x)
		}
	})
}

// P2.1: both ends of Imm's range are valid, and the numbers next to them are not; nor is one that is equal to a valid one modulo 2^15 or 2^21.
func TestEndsOfNumbers(t *testing.T) {
	for op, r := range byOp() {
		if !r.num {
			continue
		}
		for _, imm := range []int64{r.low, r.high} {
			if _, e := inst.Encode(api.Inst{Op: uint8(op), Is: true, Imm: int32(imm)}); e != api.OK {
				t.Errorf("Op %d, Imm %d: %d", op, imm, e)
			}
		}
		for _, imm := range []int64{r.low - 1, r.high + 1, r.low - 1<<15, r.high + 1<<15, r.low - 1<<21, r.high + 1<<21, -1 << 31, 1<<31 - 1} {
			if imm < r.low || imm > r.high {
				refused(t, api.Inst{Op: uint8(op), Is: true, Imm: int32(imm)})
			}
		}
	}
}

// P2.1: Is where it may not be, and where it must be.
func TestIsWhereItMayNotBe(t *testing.T) {
	for op, r := range byOp() {
		if len(r.ops) > 0 && !r.num {
			for _, imm := range numbers() {
				refused(t, api.Inst{Op: uint8(op), Is: true, Imm: imm})
			}
		}
		if r.num && r.rs2 == 1 {
			for _, imm := range numbers() {
				refused(t, api.Inst{Op: uint8(op), Imm: imm})
			}
		}
	}
}

// P2.1, R1: Ops that do not exist, of which those from 64 on would not even fit.
func TestNoSuchOp(t *testing.T) {
	for op := range 256 {
		if 1 <= op && op <= 37 {
			continue
		}
		for _, is := range []bool{false, true} {
			for _, imm := range []int32{0, 1, 3} {
				refused(t, api.Inst{Op: uint8(op), Is: is, Imm: imm})
			}
		}
		refused(t, api.Inst{Op: uint8(op), Rd: 1, Rs1: 2, Rs2: 3})
	}
}

// P2.2, R3, over all Ops, Rds, Rs1s and Is.
func TestDecodeAsTheTableSays(t *testing.T) {
	table := byOp()
	eachWord(func(w uint32) {
		want, exists := instructionOf(table, w)
		if x, is := inst.Decode(w); x != want || is != exists {
			t.Errorf("Decode(%08x) = %v, %v; want %v, %v", w, x, is, want, exists)
		}
	})
}

// P2.2, R6: words that are no instruction's, each for a reason of its own.
func TestWordsOfNoInstruction(t *testing.T) {
	for _, w := range []uint32{
		0x00000001, 0x00008000, 0x03ffffff, // Op 0
		0x98000000, 0xfc000000, 0xffffffff, // Ops 38 and 63
		0x04000020, 0x04004000, 0x04007fff, // a bit between Is and Rs2
		0x40200000, 0x40208001, // OpCmp with Rd
		0x44e00000,             // OpBr with condition 7
		0x48200000,             // OpCall with Rd
		0x68010000, 0x68000001, // OpRdPsr with Rs1, with Rs2
		0x68008000, 0x68000020, // OpRdPsr with Is, with a bit above Rs2
		0x78000000, 0x78008002, 0x7800ffff, // OpRdT without Is, with Imm 2, with Imm -1
		0x78018000, 0x7c208000, // OpRdT with Rs1, OpWrT with Rd
		0x80000001, 0x80008000, 0x80010000, 0x80200000, // OpRett with anything
		0x84000003, 0x84008002, 0x84008005, // OpTrap without Is, with Imm 2 and 5
		0x88010000, 0x8c200000, 0x90008000, // OpChoice with Rs1, OpOut with Rd, OpHalt with Is
		0x94000001, 0x94008000, 0x94008004, // OpFault without Is, with Imm 0 and 4
	} {
		none(t, w)
	}
}

// P2.3: from a valid instruction, there and back.
func TestDecodeOfEncode(t *testing.T) {
	eachValid(func(x api.Inst) {
		w, _ := inst.Encode(x)
		if back, is := inst.Decode(w); back != x || !is {
			t.Errorf("%v has the word %08x, which gives %v, %v", x, w, back, is)
		}
	})
}

// P2.3: from a word, there and back.
func TestEncodeOfDecode(t *testing.T) {
	eachWord(func(w uint32) {
		x, is := inst.Decode(w)
		if !is {
			return
		}
		if back, e := inst.Encode(x); back != w || e != api.OK {
			t.Errorf("%08x is %v, which gives %08x, %d", w, x, back, e)
		}
	})
}

// P2.3: there and back for every number that an Op can have.
func TestAllNumbers(t *testing.T) {
	for op, r := range byOp() {
		if !r.num {
			continue
		}
		for imm := r.low; imm <= r.high; imm++ {
			x := api.Inst{Op: uint8(op), Is: true, Imm: int32(imm)}
			w, e := inst.Encode(x)
			if back, is := inst.Decode(w); e != api.OK || back != x || !is {
				t.Fatalf("%v: %d, %08x, %v", x, e, w, back)
			}
		}
	}
}

// P2.3.
func TestWordZero(t *testing.T) {
	none(t, 0)
	eachInstruction(func(x api.Inst) {
		if w, e := inst.Encode(x); w == 0 && e == api.OK {
			t.Errorf("%v has the word 0", x)
		}
	})
}
