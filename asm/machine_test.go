package asm_test

import (
	"slices"
	"testing"

	"muntin/api"
	"muntin/asm"
	"muntin/mach"
)

const (
	windows  = 3
	memory   = 4096
	inWindow = 1
	inBank   = 2
)

// filled returns a machine of which no two registers are alike, in the window 1 and the bank 2.
func filled(t *testing.T) *mach.Machine {
	t.Helper()
	m, e := mach.New(windows, memory)
	if e != api.OK {
		t.Fatalf("New = %d", e)
	}
	eachRegister(func(window, bank, reg int) {
		m.File().Set(window, bank, reg, uint32(window<<16|bank<<8|reg)*0x9e3779b1)
	})
	if e := m.SetPsr(api.Psr{Cwp: inWindow, Pil: 5, Bank: inBank, Flags: 9}); e != api.OK {
		t.Fatalf("SetPsr = %d", e)
	}
	if e := m.SetWim(1 << 2); e != api.OK {
		t.Fatalf("SetWim = %d", e)
	}
	return m
}

func eachRegister(f func(window, bank, reg int)) {
	for window := range windows {
		for bank := range api.Banks {
			for reg := range 32 {
				f(window, bank, reg)
			}
		}
	}
}

// registers are all registers of a machine, as they are seen through all windows and banks.
func registers(m *mach.Machine) []uint32 {
	var l []uint32
	eachRegister(func(window, bank, reg int) {
		w, _ := m.File().Get(window, bank, reg)
		l = append(l, w)
	})
	return l
}

// execute has a machine execute words from an address on, each once.
func execute(t *testing.T, m *mach.Machine, at uint32, l []uint32) {
	t.Helper()
	if e := m.Mem().Put(at, l); e != api.OK {
		t.Fatalf("Put = %d", e)
	}
	m.SetPC(at)
	for range l {
		if s := m.Step(0); s != (api.Stop{}) {
			t.Fatalf("%08x: stop %v", l, s)
		}
	}
}

// P7.5: the register has the word (g0 is always 0), no other register is changed, nor anything beside the registers but the PC.
func TestConstantsExecuted(t *testing.T) {
	m := filled(t)
	before, state, wim := registers(m), m.Psr(), m.Wim()
	for rd := range 32 {
		for _, w := range edges() {
			a := asm.New()
			a.Const(uint8(rd), w)
			l, _ := a.Words()
			if len(l) == 0 {
				t.Fatalf("Const(%d, %x): no words", rd, w)
			}
			const at = 1024
			was, _ := m.File().Get(inWindow, inBank, rd)
			execute(t, m, at, l)
			want := w
			if rd == api.RegG {
				want = 0
			}
			if got, _ := m.File().Get(inWindow, inBank, rd); got != want {
				t.Fatalf("Const(%d, %x) makes the register %x", rd, w, got)
			}
			m.File().Set(inWindow, inBank, rd, was)
			if !slices.Equal(registers(m), before) {
				t.Fatalf("Const(%d, %x) changes other registers", rd, w)
			}
			if m.PC() != at+4*uint32(len(l)) || m.Psr() != state || m.Wim() != wim || len(m.Out()) != 0 {
				t.Fatalf("Const(%d, %x): PC %x, state %v, WIM %x, output %x", rd, w, m.PC(), m.Psr(), m.Wim(), m.Out())
			}
		}
	}
}

// countdown appends what prints 3, 2 and 1, by jumps forwards and backwards and by calls, and halts.
func countdown(a *asm.Asm) {
	a.Const(17, 3)
	a.Jump(api.CoAlways, "test")
	a.Mark("body")
	a.Call("print")
	a.Put(api.Inst{Op: api.OpAlu + api.AlSub, Rd: 17, Rs1: 17, Is: true, Imm: 1})
	a.Mark("test")
	a.Put(api.Inst{Op: api.OpCmp, Rs1: 17, Is: true})
	a.Jump(api.CoNe, "body")
	a.Put(api.Inst{Op: api.OpHalt, Rs1: 17})
	a.Mark("print")
	a.Put(api.Inst{Op: api.OpOut, Rs1: 17}, api.Inst{Op: api.OpJmpl, Rs1: api.RA, Is: true, Imm: 4})
}

// P7.4: the same words do the same wherever they are in the memory.
func TestWordsAnywhere(t *testing.T) {
	a := asm.New()
	countdown(a)
	l, e := a.Words()
	if e != api.OK {
		t.Fatalf("Words = %d", e)
	}
	for _, at := range []uint32{0, 4, 256, 1020, memory - 4*uint32(len(l))} {
		m := filled(t)
		m.Mem().Put(at, l)
		m.SetPC(at)
		for range 100 {
			m.Step(0)
		}
		if s := m.Stop(); s != (api.Stop{Kind: api.StHalt}) || !slices.Equal(m.Out(), []uint32{3, 2, 1}) {
			t.Errorf("at %x: stop %v, output %x", at, s, m.Out())
		}
	}
}

// P7.4: nor do the words of jumps depend on what is before them in the list, or after them.
func TestWordsAmongOthers(t *testing.T) {
	a := asm.New()
	countdown(a)
	want, _ := a.Words()
	for _, first := range []int{1, 2, 50, 1000} {
		b := list(first)
		countdown(b)
		b.Call("print")
		retts(b, first)
		l, e := b.Words()
		if e != api.OK || len(l) != 2*first+len(want)+1 || !slices.Equal(l[first:first+len(want)], want) {
			t.Errorf("after %d others: %s, %d; want %08x", first, short(l), e, want)
		}
	}
}
