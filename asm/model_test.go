package asm_test

import (
	"slices"
	"testing"

	"muntin/api"
	"muntin/asm"
)

// plain is an instruction that is no jump, and its word.
type plain struct {
	x api.Inst
	w uint32
}

// plains are valid instructions, with the words that the chapter of layer 2 tells, or that follow from it.
func plains() []plain {
	return []plain{
		{api.Inst{Op: api.OpRett}, 0x80000000},
		{api.Inst{Op: api.OpTrap, Is: true, Imm: 3}, 0x84008003},
		{api.Inst{Op: api.OpAlu + api.AlAdd, Rd: 9, Rs1: 8, Is: true, Imm: -1}, 0x0528ffff},
		{api.Inst{Op: api.OpAlu + api.AlSub, Rd: 1, Rs1: 2, Rs2: 3}, 0x08220003},
		{api.Inst{Op: api.OpSethi, Rd: 5, Is: true, Imm: 1}, 0x3ca00001},
		{api.Inst{Op: api.OpBr, Rd: api.CoNe, Is: true, Imm: -2}, 0x445ffffe},
		{api.Inst{Op: api.OpBr, Rd: api.CoGeu, Is: true, Imm: 1<<20 - 1}, 0x44cfffff},
		{api.Inst{Op: api.OpCall, Is: true, Imm: 3}, 0x48000003},
		{api.Inst{Op: api.OpStb, Rd: 31, Rs1: 31, Rs2: 31}, 0x67ff001f},
		{api.Inst{Op: api.OpOut, Rs1: 1}, 0x8c010000},
	}
}

// notValid are instructions that are not valid, each by another field.
func notValid() []api.Inst {
	return []api.Inst{
		{},
		{Op: 38},
		{Op: 255},
		{Op: api.OpRett, Rd: 1},
		{Op: api.OpRett, Is: true},
		{Op: api.OpAlu, Rd: 32},
		{Op: api.OpAlu, Rs1: 32},
		{Op: api.OpAlu, Rs2: 32},
		{Op: api.OpAlu, Is: true, Imm: 1 << 14},
		{Op: api.OpAlu, Is: true, Imm: -1<<14 - 1},
		{Op: api.OpAlu, Imm: 1},
		{Op: api.OpBr, Rd: 7, Is: true},
		{Op: api.OpBr, Is: true, Imm: 1 << 20},
		{Op: api.OpBr},
		{Op: api.OpCall, Rd: 1, Is: true},
		{Op: api.OpTrap, Is: true, Imm: 5},
	}
}

// branchWord and callWord are the words of a jump over so many instructions.
func branchWord(cond uint8, ahead int) uint32 {
	return uint32(17*(1<<26) + int(cond)*(1<<21) + (ahead+1<<21)%(1<<21))
}

func callWord(ahead int) uint32 { return uint32(18*(1<<26) + (ahead+1<<21)%(1<<21)) }

// constantWords are the words of the instructions of a constant, by arithmetic alone.
func constantWords(rd uint8, w uint32) []uint32 {
	n, r := int64(w), int64(rd)
	if n >= 1<<31 {
		n -= 1 << 32
	}
	if -16384 <= n && n <= 16383 {
		return []uint32{uint32(1*(1<<26) + r*(1<<21) + 1<<15 + (n+32768)%32768)}
	}
	l := []uint32{uint32(15*(1<<26) + r*(1<<21) + int64(w)/2048)}
	if low := int64(w) % 2048; low != 0 {
		l = append(l, uint32(7*(1<<26)+r*(1<<21)+r*(1<<16)+1<<15+low))
	}
	return l
}

// step is an instruction of a model: a word, or a jump to a name.
type step struct {
	word   uint32
	isJump bool
	isCall bool
	cond   uint8
	name   string
}

type mark struct {
	name string
	at   int
}

// model is what a list must be, by the chapter's words alone.
type model struct {
	steps []step
	marks []mark
}

func (m *model) copy() *model {
	return &model{steps: slices.Clone(m.steps), marks: slices.Clone(m.marks)}
}

func (m *model) put(words ...uint32) {
	for _, w := range words {
		m.steps = append(m.steps, step{word: w})
	}
}

func (m *model) at(name string) (int, api.Errno) {
	for _, k := range m.marks {
		if k.name == name {
			return k.at, api.OK
		}
	}
	return 0, api.ErrNone
}

func (m *model) mark(name string) api.Errno {
	if _, e := m.at(name); e == api.OK {
		return api.ErrState
	}
	m.marks = append(m.marks, mark{name, len(m.steps)})
	return api.OK
}

func (m *model) words() ([]uint32, api.Errno) {
	l := []uint32{}
	for at, s := range m.steps {
		if !s.isJump {
			l = append(l, s.word)
			continue
		}
		to, e := m.at(s.name)
		if e != api.OK {
			return nil, e
		}
		ahead := to - at
		if ahead < -1048576 || ahead > 1048575 {
			return nil, api.ErrRange
		}
		if s.isCall {
			l = append(l, callWord(ahead))
		} else {
			l = append(l, branchWord(s.cond, ahead))
		}
	}
	return l, api.OK
}

// rig is a list beside its model; what is done to it is done to both.
type rig struct {
	t    *testing.T
	a    *asm.Asm
	want *model
}

func newRig(t *testing.T) *rig {
	t.Helper()
	a := asm.New()
	if a == nil {
		t.Fatal("New() = nil")
	}
	r := &rig{t: t, a: a, want: &model{}}
	r.holds()
	return r
}

func (r *rig) copy() *rig {
	r.t.Helper()
	c := &rig{t: r.t, a: r.a.Copy(), want: r.want.copy()}
	if c.a == nil || c.a == r.a {
		r.t.Fatalf("Copy() = %p of %p", c.a, r.a)
	}
	c.holds()
	return c
}

func (r *rig) is(what string, e, want api.Errno) {
	r.t.Helper()
	if e != want {
		r.t.Fatalf("%s = %d; want %d", what, e, want)
	}
}

func (r *rig) put(l ...plain) {
	r.t.Helper()
	var xs []api.Inst
	for _, p := range l {
		xs = append(xs, p.x)
		r.want.put(p.w)
	}
	r.is("Put", r.a.Put(xs...), api.OK)
	r.holds()
}

// rett puts many OpRett at once, without looking at the list.
func (r *rig) rett(many int) {
	r.t.Helper()
	r.is("Put", r.a.Put(slices.Repeat([]api.Inst{{Op: api.OpRett}}, many)...), api.OK)
	r.want.put(slices.Repeat([]uint32{0x80000000}, many)...)
}

func (r *rig) mark(name string) {
	r.t.Helper()
	r.is("Mark", r.a.Mark(name), r.want.mark(name))
	r.holds()
}

func (r *rig) jump(cond uint8, name string) {
	r.t.Helper()
	r.want.steps = append(r.want.steps, step{isJump: true, cond: cond, name: name})
	r.is("Jump", r.a.Jump(cond, name), api.OK)
	r.holds()
}

func (r *rig) call(name string) {
	r.t.Helper()
	r.want.steps = append(r.want.steps, step{isJump: true, isCall: true, name: name})
	r.is("Call", r.a.Call(name), api.OK)
	r.holds()
}

func (r *rig) constant(rd uint8, w uint32) {
	r.t.Helper()
	r.want.put(constantWords(rd, w)...)
	r.is("Const", r.a.Const(rd, w), api.OK)
	r.holds()
}

// names are some marks that a list may have, and some that it hardly has.
func names() []string {
	return []string{"", "x", "y", "X", "x ", " ", "x\x00", "\x00", "\xff\xfe", "a name", "ä"}
}

// holds compares a list with its model, in all that its calls return.
func (r *rig) holds() {
	r.t.Helper()
	if n := r.a.Len(); n != len(r.want.steps) {
		r.t.Fatalf("Len() = %d; want %d", n, len(r.want.steps))
	}
	for _, k := range r.want.marks {
		r.stands(k.name)
	}
	for _, name := range names() {
		r.stands(name)
	}
	l, e := r.want.words()
	got, err := r.a.Words()
	if err != e || !slices.Equal(got, l) {
		r.t.Fatalf("Words() = %s, %d; want %s, %d", short(got), err, short(l), e)
	}
}

func (r *rig) stands(name string) {
	r.t.Helper()
	at, e := r.want.at(name)
	if got, err := r.a.At(name); got != at || err != e {
		r.t.Fatalf("At(%q) = %d, %d; want %d, %d", name, got, err, at, e)
	}
}

// words returns what Words returns where there is no error.
func (r *rig) words() []uint32 {
	r.t.Helper()
	l, e := r.a.Words()
	r.is("Words", e, api.OK)
	return l
}
