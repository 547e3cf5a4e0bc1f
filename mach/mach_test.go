package mach_test

import (
	"math"
	"slices"
	"testing"

	"muntin/api"
	"muntin/mach"
)

// P6.1: numbers of windows and sizes at the edges; all parts of a new machine.
func TestNewMachines(t *testing.T) {
	for nw := 2; nw <= 32; nw++ {
		newRig(t, nw, 64).holds(nw)
	}
	for _, nw := range []int{2, 32} {
		for _, size := range []int{0, 4, 8, 256, 1<<22 - 4, 1 << 22} {
			r := newRig(t, nw, size)
			if l := r.m.Out(); len(l) != 0 || r.m.Wim() != 2 || r.m.PC() != 0 || r.m.Psr() != (api.Psr{}) || r.m.Stop() != (api.Stop{}) {
				t.Errorf("New(%d, %d): output %x, WIM %x, PC %x, state %v, stop %v", nw, size, l, r.m.Wim(), r.m.PC(), r.m.Psr(), r.m.Stop())
			}
			r.holds(size)
		}
	}
}

// P6.1, R1, R3: numbers and sizes just beyond the edges, and such as would be valid if they were cut off.
func TestNewRefused(t *testing.T) {
	windows := []int{0, 1, 33, 34, -1, -2, 64, 256 + 8, 1<<16 + 8, 1<<32 + 8, 8 - 1<<32, math.MinInt, math.MaxInt}
	sizes := []int{-1, -4, 1, 2, 3, 5, 1022, 1<<22 - 1, 1<<22 + 1, 1<<22 + 4, 1 << 23, 1 << 32, 1<<32 + 1024, 1024 - 1<<32, math.MinInt, math.MaxInt, math.MaxInt - 3}
	refused := func(nw, size int) {
		t.Helper()
		if m, e := mach.New(nw, size); m != nil || e != api.ErrArg {
			t.Errorf("New(%d, %d) = %p, %d; want nil, ErrArg", nw, size, m, e)
		}
	}
	for _, nw := range windows {
		for _, size := range append(sizes, 0, 4, 1024, 1<<22) {
			refused(nw, size)
		}
	}
	for _, nw := range []int{2, 3, 8, 32} {
		for _, size := range sizes {
			refused(nw, size)
		}
	}
}

// P6.1, R4: machines know nothing of each other.
func TestMachinesApart(t *testing.T) {
	r, other := filled(t, 3, 1024), newRig(t, 3, 1024)
	other.holds("a new one beside another")
	other.setPsr(api.Psr{Cwp: 1})
	other.set(1, 5)
	other.does(api.Inst{Op: api.OpOut, Rs1: 1}, func(w *model) { w.out = []uint32{5} })
	r.holds("the other one")
}

// P6.1: no words, one, as many as fit, and one more, which changes nothing.
func TestLoadWords(t *testing.T) {
	for _, size := range []int{0, 4, 8, 64, 1024} {
		r := newRig(t, 3, size)
		for _, many := range []int{0, 1, size/4 - 1, size / 4, size/4 + 1, size/4 + 2, size, size + 100} {
			if many < 0 {
				continue
			}
			l := make([]uint32, many)
			for i := range l {
				l[i] = uint32(many+i+1) * 0x9e3779b1
			}
			want := api.OK
			if many > size/4 {
				want = api.ErrRange
			} else {
				for i, n := range l {
					r.want.store(uint32(4*i), 4, n)
				}
			}
			if e := r.m.Load(l); e != want {
				t.Errorf("%d bytes: Load of %d words = %d; want %d", size, many, e, want)
			}
			r.holds(many)
		}
		r.ok(r.m.Load(nil))
		r.ok(r.m.Load([]uint32{}))
		r.holds("no words")
	}
}

// P6.1: the greatest memory, whole, and one word more.
func TestLoadGreatest(t *testing.T) {
	m := made(t, 2, 1<<22)
	l := make([]uint32, 1<<20+1)
	for i := range l {
		l[i] = uint32(i) ^ 0xa5a5a5a5
	}
	if e := m.Load(l); e != api.ErrRange {
		t.Errorf("Load of a word too many = %d; want ErrRange", e)
	}
	if n, e := m.Mem().Load(0, 4); n != 0 || e != api.OK {
		t.Errorf("a Load that was refused stored %x", n)
	}
	if e := m.Load(l[:1<<20]); e != api.OK {
		t.Errorf("Load of as many words as fit = %d", e)
	}
	if got, e := m.Mem().Words(0, 1<<20); !slices.Equal(got, l[:1<<20]) || e != api.OK {
		t.Errorf("the words of the greatest memory are others, or %d", e)
	}
}

// P6.1: the choices become the list, whatever they were; no list is none.
func TestChoose(t *testing.T) {
	r := filled(t, 3, 1024)
	for _, l := range [][]uint32{{1}, {}, {4, 5, 6, 7, 8, 9}, nil, {0, 0, 1}, {0xffffffff}} {
		r.choose(l...)
		r.holds("chosen")
	}
	r.choose(1, 2)
	r.does(api.Inst{Op: api.OpChoice, Rd: 1}, func(w *model) { *w.reg(1), w.choices = 1, []uint32{2} })
	r.choose(3)
	r.does(api.Inst{Op: api.OpChoice, Rd: 1}, func(w *model) { *w.reg(1), w.choices = 3, nil })
}

// P6.1, R5: what Load and Choose were given is not changed, nor kept, with its spare capacity.
func TestGivenListsApart(t *testing.T) {
	r := filled(t, 3, 1024)
	whole := []uint32{11, 12, 13, 14, 15, 16}
	l := whole[1:3]
	r.ok(r.m.Load(l))
	r.want.store(0, 4, 12)
	r.want.store(4, 4, 13)
	r.ok(r.m.Choose(l))
	r.want.choices = []uint32{12, 13}
	r.does(api.Inst{Op: api.OpChoice, Rd: 1}, func(w *model) { *w.reg(1), w.choices = 12, []uint32{13} })
	r.store(0, 99)
	if !slices.Equal(whole, []uint32{11, 12, 13, 14, 15, 16}) {
		t.Errorf("the list became %d", whole)
	}
	for i := range whole {
		whole[i] = 0xbad
	}
	r.holds("a list that was written to later")
}

// P6.3, R5: what Out returned is not the machine's, with its spare capacity, and stays as it was.
func TestOutApart(t *testing.T) {
	r := newRig(t, 3, 4096)
	var kept, wanted [][]uint32
	for i := range uint32(40) {
		r.set(1, i+1)
		r.does(api.Inst{Op: api.OpOut, Rs1: 1}, func(w *model) { w.out = append(w.out, i+1) })
		l, other := r.m.Out(), r.m.Out()
		kept, wanted = append(kept, other), append(wanted, slices.Clone(r.want.out))
		_ = append(l, 0xbad)
		l = l[:cap(l)]
		for n := range l {
			l[n] = 0xbad
		}
		r.holds("an output that was written to")
	}
	for i, l := range kept {
		if !slices.Equal(l, wanted[i]) {
			t.Errorf("the output %d became %x; want %x", i, l, wanted[i])
		}
	}
}

// P6.3: any PC, and all valid states and WIMs, can be set; the other parts stay.
func TestSetParts(t *testing.T) {
	for _, nw := range []int{3, 8, 32} {
		r := filled(t, nw, 1024)
		for _, pc := range []uint32{0, 1, 2, 3, 4, 1020, 1024, 1 << 22, 1 << 31, 0xffffffff} {
			r.setPC(pc)
			r.holds(pc)
		}
		for n := range max(nw, 17) {
			r.setPsr(api.Psr{Cwp: uint8(n % nw), Pil: uint8(n % 16), Bank: uint8(n % 17), Flags: uint8((n + 5) % 16)})
			r.holds(n)
		}
		for n := range nw {
			r.setInvalid(uint8(n))
			r.holds(n)
		}
	}
}

// P6.3: states that are not valid: each number just beyond its edge, and far; nothing is changed.
func TestSetPsrRefused(t *testing.T) {
	for _, nw := range []int{3, 8, 31, 32} {
		r := filled(t, nw, 512)
		for _, p := range []api.Psr{
			{Cwp: uint8(nw)}, {Cwp: uint8(nw) + 1}, {Cwp: 32}, {Cwp: 255}, {Pil: 16}, {Pil: 17}, {Pil: 255}, {Bank: 17}, {Bank: 18}, {Bank: 31}, {Bank: 32}, {Bank: 255},
			{Flags: 16}, {Flags: 17}, {Flags: 255}, {Cwp: 1, Pil: 1, Bank: 1, Flags: 16}, {Cwp: 255, Pil: 255, Bank: 255, Flags: 255},
		} {
			if e := r.m.SetPsr(p); e != api.ErrArg {
				t.Errorf("%d windows: SetPsr(%v) = %d; want ErrArg", nw, p, e)
			}
		}
		r.holds("refused states")
	}
}

// P6.3: WIMs that are not valid: no window, several, one that there is not.
func TestSetWimRefused(t *testing.T) {
	for _, nw := range []int{3, 8, 31, 32} {
		r := filled(t, nw, 512)
		l := []uint32{0, 3, 5, 6, 7, 9, 1<<31 | 1, 0xffffffff, 1<<(nw-1) | 2}
		for n := nw; n < 32; n++ {
			l = append(l, 1<<n)
		}
		for _, wim := range l {
			if e := r.m.SetWim(wim); e != api.ErrForm {
				t.Errorf("%d windows: SetWim(%x) = %d; want ErrForm", nw, wim, e)
			}
		}
		r.holds("refused WIMs")
	}
}

// P6.3: banks that are not from 1 to 16, before and after traps.
func TestTRefused(t *testing.T) {
	for _, r := range []*rig{newRig(t, 2, 64), filled(t, 3, 1024)} {
		for _, bank := range []int{0, 17, 18, 32, -1, -16, 256 + 1, 1<<32 + 1, 1 - 1<<32, math.MinInt, math.MaxInt} {
			if pc, psr, e := r.m.T(bank); pc != 0 || psr != 0 || e != api.ErrArg {
				t.Errorf("T(%d) = %x, %x, %d; want 0, 0, ErrArg", bank, pc, psr, e)
			}
		}
	}
}

// P6.3: the file and the memory are the machine's own: the same ones each time, and what is done to them is done to it, both ways.
func TestOwnFileAndMem(t *testing.T) {
	r := filled(t, 3, 1024)
	f, memory := r.m.File(), r.m.Mem()
	r.ok(f.Set(2, 0, 1, 0x77))
	r.ok(memory.Store(256, 4, code(t, api.Inst{Op: api.OpSt, Rd: 1, Is: true, Imm: 64})))
	r.ok(memory.Store(260, 4, code(t, api.Inst{Op: api.OpSethi, Rd: 1, Is: true, Imm: 1})))
	r.m.Step(0)
	r.m.Step(0)
	if n, e := memory.Load(64, 4); n != 0x77 || e != api.OK {
		t.Errorf("the memory has %x; want what the machine stored", n)
	}
	if n, e := f.Get(2, 0, 1); n != 0x800 || e != api.OK {
		t.Errorf("the register is %x; want what the machine set", n)
	}
	r.ok(r.m.Load([]uint32{0x99}))
	if n, e := memory.Load(0, 4); n != 0x99 || e != api.OK {
		t.Errorf("the memory has %x; want what Load stored", n)
	}
	if r.m.File() != f || r.m.Mem() != memory {
		t.Error("the file or the memory is another one later")
	}
}

// P6.3: a copy is equal, whatever the machine did; its file and its memory are others.
func TestCopyIsEqual(t *testing.T) {
	r := filled(t, 4, 1024)
	c := r.copy()
	c.holds("a copy")
	if c.m == r.m || c.m.File() == r.m.File() || c.m.Mem() == r.m.Mem() {
		t.Error("a copy is the machine itself, or has its file or its memory")
	}
	c = c.copy()
	c.holds("a copy of a copy")
	newRig(t, 2, 0).copy().holds("a copy of a new machine")
	for _, x := range []api.Inst{{Op: api.OpHalt, Rs1: 1}, {Op: api.OpFault, Is: true, Imm: 3}, {Op: api.OpRett}} {
		stopped := r.copy()
		stopped.store(256, code(t, x))
		stopped.step(0)
		stopped.copy().holds(x)
	}
}

// changes are what changes a machine in one of its parts.
func changes() map[string]func(r *rig) {
	does := func(x api.Inst, level uint8) func(r *rig) {
		return func(r *rig) {
			r.t.Helper()
			r.store(r.want.pc, code(r.t, x))
			r.step(level)
		}
	}
	return map[string]func(r *rig){
		"PC":        func(r *rig) { r.setPC(4) },
		"state":     func(r *rig) { r.setPsr(api.Psr{Cwp: 1, Pil: 2, Bank: 3, Flags: 4}) },
		"WIM":       func(r *rig) { r.setInvalid(3) },
		"choices":   func(r *rig) { r.choose(1, 2, 3, 4) },
		"no choice": func(r *rig) { r.choose() },
		"window":    func(r *rig) { r.set(16, 5) },
		"out":       func(r *rig) { r.set(9, 5) },
		"global":    func(r *rig) { r.set(7, 5) },
		"memory":    func(r *rig) { r.store(1020, 5) },
		"words": func(r *rig) {
			r.ok(r.m.Load([]uint32{5}))
			r.want.store(0, 4, 5)
		},
		"interrupt":  does(api.Inst{Op: api.OpHalt}, 9),
		"trap":       does(api.Inst{Op: api.OpTrap, Is: true, Imm: 4}, 0),
		"output":     does(api.Inst{Op: api.OpOut, Rs1: 17}, 0),
		"a choice":   does(api.Inst{Op: api.OpChoice, Rd: 17}, 0),
		"save":       does(api.Inst{Op: api.OpSave, Rd: 17}, 0),
		"store":      does(api.Inst{Op: api.OpSt, Rd: 17, Is: true, Imm: 8}, 0),
		"halt":       does(api.Inst{Op: api.OpHalt, Rs1: 17}, 0),
		"fault":      does(api.Inst{Op: api.OpFault, Is: true, Imm: 3}, 0),
		"error":      does(api.Inst{Op: api.OpRett}, 0),
		"comparison": does(api.Inst{Op: api.OpCmp, Rs1: 17, Rs2: 18}, 0),
	}
}

// P6.3: what is done to a machine is not done to its copy, and the other way round; also where both append to an output that has room.
func TestCopyIsIndependent(t *testing.T) {
	for n := range 6 {
		for name, change := range changes() {
			r := filled(t, 4, 1024)
			for i := range n {
				r.store(r.want.pc, code(t, api.Inst{Op: api.OpOut, Rs1: uint8(20 + i)}))
				r.step(0)
			}
			c := r.copy()
			change(r)
			c.holds("the copy after " + name)
			c.set(17, 0x600d)
			change(c)
			r.holds("the machine after the copy's " + name)
			c.holds("the copy after its own " + name)
			d := c.copy()
			change(d)
			c.holds("the copy after " + name + " of its copy")
		}
	}
}

// P6.3, P6.4: a copy that is stepped as the machine is does what it does.
func TestCopyRuns(t *testing.T) {
	s := random(362436069)
	r := filled(t, 4, 1024)
	r.setPsr(api.Psr{Cwp: 1})
	for i := range uint32(256) {
		r.store(4*i, code(t, api.Inst{Op: api.OpAlu + uint8(s.below(3)), Rd: uint8(s.below(32)), Rs1: uint8(s.below(32)), Rs2: uint8(s.below(32))}))
	}
	c := r.copy()
	for range 60 {
		level := uint8(s.below(20) * s.below(2))
		r.step(level)
		c.step(level)
	}
	r.holds("the machine")
	c.holds("the copy")
}

// P6.1 to P6.3, R2: a nil machine, and one that no call made: ErrNil comes before all other errors, and all else is zero.
func TestNoMachine(t *testing.T) {
	for _, m := range []*mach.Machine{nil, {}, new(mach.Machine)} {
		for range 2 {
			for _, l := range [][]uint32{nil, {}, {1}, make([]uint32, 1<<20+1)} {
				if a, b := m.Load(l), m.Choose(l); a != api.ErrNil || b != api.ErrNil {
					t.Errorf("Load and Choose of %d words = %d, %d; want ErrNil", len(l), a, b)
				}
			}
			for _, level := range []uint8{0, 1, 15, 16, 255} {
				if s := m.Step(level); s != failed {
					t.Errorf("Step(%d) = %v; want StError", level, s)
				}
			}
			for _, bank := range []int{0, 1, 16, 17, -1, math.MinInt, math.MaxInt} {
				if pc, psr, e := m.T(bank); pc != 0 || psr != 0 || e != api.ErrNil {
					t.Errorf("T(%d) = %x, %x, %d; want 0, 0, ErrNil", bank, pc, psr, e)
				}
			}
			for _, p := range []api.Psr{{}, {Cwp: 1}, {Cwp: 255, Pil: 255, Bank: 255, Flags: 255}} {
				if e := m.SetPsr(p); e != api.ErrNil {
					t.Errorf("SetPsr(%v) = %d; want ErrNil", p, e)
				}
			}
			for _, n := range []uint32{0, 1, 2, 3, 0xffffffff} {
				if a, b := m.SetWim(n), m.SetPC(n); a != api.ErrNil || b != api.ErrNil {
					t.Errorf("SetWim and SetPC of %x = %d, %d; want ErrNil", n, a, b)
				}
			}
			if s := m.Stop(); s != failed {
				t.Errorf("Stop() = %v; want StError", s)
			}
			if m.PC() != 0 || m.Psr() != (api.Psr{}) || m.Wim() != 0 || len(m.Out()) != 0 {
				t.Errorf("PC %x, state %v, WIM %x, output %x; want none", m.PC(), m.Psr(), m.Wim(), m.Out())
			}
			if m.File() != nil || m.Mem() != nil || m.Copy() != nil {
				t.Errorf("file %p, memory %p, copy %p; want nil", m.File(), m.Mem(), m.Copy())
			}
		}
	}
}
