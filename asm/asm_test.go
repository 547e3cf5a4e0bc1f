package asm_test

import (
	"fmt"
	"math"
	"slices"
	"testing"

	"muntin/api"
	"muntin/asm"
)

// short writes a list of words that may be very long.
func short(l []uint32) string {
	if len(l) > 32 {
		return fmt.Sprintf("%08x.. (%d words)", l[:32], len(l))
	}
	return fmt.Sprintf("%08x", l)
}

// P7.1 to P7.3: the chapter's examples.
func TestExamples(t *testing.T) {
	same := func(a *asm.Asm, want []uint32, errno api.Errno) {
		t.Helper()
		if l, e := a.Words(); !slices.Equal(l, want) || e != errno {
			t.Errorf("Words() = %08x, %d; want %08x, %d", l, e, want, errno)
		}
	}
	a := asm.New()
	a.Const(1, 5)
	a.Const(1, 0xffffffff)
	same(a, []uint32{0x04208005, 0x0420ffff}, api.OK)
	a = asm.New()
	a.Const(1, 0x12345678)
	a.Const(1, 0x8000)
	same(a, []uint32{0x3c22468a, 0x1c218678, 0x3c200010}, api.OK)
	a = asm.New()
	a.Jump(api.CoAlways, "x")
	a.Put(api.Inst{Op: api.OpRett})
	a.Mark("x")
	same(a, []uint32{0x44000002, 0x80000000}, api.OK)
	a = asm.New()
	a.Call("y")
	same(a, nil, api.ErrNone)
}

// P7.3: a new list has no instructions and no marks, and knows nothing of others.
func TestNewListsApart(t *testing.T) {
	r, other := newRig(t), newRig(t)
	r.put(plains()...)
	r.mark("x")
	r.jump(api.CoEq, "y")
	other.holds()
	newRig(t)
	other.mark("y")
	other.call("y")
	r.holds()
}

// P7.1: a Put of no instruction, of one, of several, and of each.
func TestPut(t *testing.T) {
	r := newRig(t)
	r.put()
	r.is("Put of an empty list", r.a.Put([]api.Inst{}...), api.OK)
	r.holds()
	for _, p := range plains() {
		r.put(p)
	}
	r.put(plains()...)
	r.put()
	r.put(plains()[3:5]...)
	other := newRig(t)
	other.put(plains()[2])
	other.put()
	other.put(plains()[:2]...)
}

// P7.1: one instruction that is not valid, at any place, and nothing is appended; what follows is as if it had not been put.
func TestPutRefused(t *testing.T) {
	for _, bad := range notValid() {
		r := newRig(t)
		for _, before := range [][]plain{nil, plains()[:1], plains()} {
			r.put(before...)
			refuse := func(many, at int) {
				t.Helper()
				var l []api.Inst
				for _, p := range plains()[:many] {
					l = append(l, p.x)
				}
				l = slices.Insert(l, at, bad)
				r.is("Put of "+fmt.Sprint(bad), r.a.Put(l...), api.ErrArg)
				r.holds()
			}
			for many := range 5 {
				for at := range many + 1 {
					refuse(many, at)
				}
			}
			r.is("Put of two", r.a.Put(bad, bad), api.ErrArg)
			r.holds()
		}
		r.mark("x")
		r.put(plains()[4:7]...)
		r.jump(api.CoAlways, "x")
	}
}

// edges are words at the edges of what the chapter tells apart, and around them.
func edges() []uint32 {
	l := []uint32{0, 5, 0x12345678, 0x8000, 0xfffff800, 0xfffff7ff, 0x7ffff800, 0xdeadbeef, 0xffff8000, 0xffff7fff}
	for i := range 32 {
		n := uint32(1) << i
		l = append(l, n-1, n, n+1, -n-1, -n, -n+1, n|0x800, n|0x80000000)
	}
	return append(l, 0x3ffe, 0x3fff, 0x4000, 0x4001, 0x47ff, 0x4800, 0xffffbffe, 0xffffbfff, 0xffffc000, 0xffffc001, 0xffffb800, 0xffffb7ff)
}

// P7.1: the words of constants: written out at the edges, and by the model for all registers.
func TestConst(t *testing.T) {
	for w, want := range map[uint32][]uint32{
		0:          {0x04208000},
		1:          {0x04208001},
		0x7ff:      {0x042087ff},
		0x800:      {0x04208800},
		0x3fff:     {0x0420bfff},
		0x4000:     {0x3c200008},
		0x4001:     {0x3c200008, 0x1c218001},
		0x47ff:     {0x3c200008, 0x1c2187ff},
		0x4800:     {0x3c200009},
		0xffffffff: {0x0420ffff},
		0xffffc000: {0x0420c000},
		0xffffbfff: {0x3c3ffff7, 0x1c2187ff},
		0xffffb800: {0x3c3ffff7},
		0x7fffffff: {0x3c2fffff, 0x1c2187ff},
		0x80000000: {0x3c300000},
		0x80000001: {0x3c300000, 0x1c218001},
	} {
		r := newRig(t)
		r.constant(1, w)
		if l := r.words(); !slices.Equal(l, want) {
			t.Errorf("Const(1, %x): %08x; want %08x", w, l, want)
		}
	}
	for rd := range uint8(32) {
		r := newRig(t)
		for _, w := range edges() {
			r.a.Const(rd, w)
			r.want.put(constantWords(rd, w)...)
		}
		r.holds()
	}
	r := newRig(t)
	for n := -20000; n <= 20000; n++ {
		r.a.Const(7, uint32(n))
		r.want.put(constantWords(7, uint32(n))...)
	}
	r.holds()
}

// P7.1: registers that do not exist, for constants of one instruction and of two; nothing is appended.
func TestConstRefused(t *testing.T) {
	r := newRig(t)
	for _, rd := range []uint8{32, 33, 63, 64, 128, 255} {
		for _, w := range []uint32{0, 5, 0x3fff, 0x8000, 0x12345678, 0xffffffff} {
			r.is("Const", r.a.Const(rd, w), api.ErrArg)
			r.holds()
		}
	}
	r.constant(31, 0x12345678)
	r.is("Const", r.a.Const(32, 0x12345678), api.ErrArg)
	r.holds()
	r.constant(0, 0x12345678)
}

// P7.2, P7.3: marks before all instructions, between them and after all, several of the same position, and names that are nearly the same.
func TestMarks(t *testing.T) {
	r := newRig(t)
	for _, name := range names()[:4] {
		r.mark(name)
	}
	r.put(plains()[:3]...)
	r.mark("between")
	r.call("x")
	r.mark("x ")
	r.mark("\x00")
	r.constant(3, 0x12345678)
	for _, name := range names() {
		r.mark(name)
	}
	for name, want := range map[string]int{"": 0, "x": 0, "y": 0, "X": 0, "between": 3, "x ": 4, "\x00": 4, "ä": 6, "\xff\xfe": 6} {
		if at, e := r.a.At(name); at != want || e != api.OK {
			t.Errorf("At(%q) = %d, %d; want %d", name, at, e, want)
		}
	}
}

// P7.2: a mark that exists already stays where it is, and jumps to it too.
func TestMarkAgain(t *testing.T) {
	for _, name := range names() {
		r := newRig(t)
		r.put(plains()[0])
		r.mark(name)
		r.is("Mark again", r.a.Mark(name), api.ErrState)
		r.put(plains()[:2]...)
		r.jump(api.CoLt, name)
		for range 2 {
			r.is("Mark again", r.a.Mark(name), api.ErrState)
			r.holds()
		}
		if at, e := r.a.At(name); at != 1 || e != api.OK {
			t.Errorf("At(%q) = %d, %d; want 1", name, at, e)
		}
	}
}

// P7.2, P7.4: jumps to names whose marks come before, at the jump itself, after it, and never.
func TestJumps(t *testing.T) {
	for _, name := range names() {
		for cond := range uint8(7) {
			r := newRig(t)
			r.mark(name)
			r.jump(cond, name)
			r.call(name)
			r.put(plains()[:2]...)
			r.jump(cond, name)
			r.call(name)
			want := []uint32{branchWord(cond, 0), callWord(-1), 0x80000000, 0x84008003, branchWord(cond, -4), callWord(-5)}
			if l := r.words(); !slices.Equal(l, want) {
				t.Errorf("%08x; want %08x", l, want)
			}
			r = newRig(t)
			r.jump(cond, name)
			r.call(name)
			r.put(plains()[:3]...)
			r.call("never")
			r.mark(name)
			r.mark("never")
			want = []uint32{branchWord(cond, 6), callWord(5), 0x80000000, 0x84008003, 0x0528ffff, callWord(1)}
			if l := r.words(); !slices.Equal(l, want) {
				t.Errorf("%08x; want %08x", l, want)
			}
		}
	}
}

// P7.2: the words of jumps, written out.
func TestWordsOfJumps(t *testing.T) {
	r := newRig(t)
	r.mark("a")
	r.put(plains()[0])
	r.jump(api.CoAlways, "a")
	r.jump(api.CoEq, "a")
	r.jump(api.CoNe, "here")
	r.mark("there")
	r.jump(api.CoLt, "there")
	r.jump(api.CoGe, "b")
	r.jump(api.CoLtu, "b")
	r.jump(api.CoGeu, "b")
	r.call("b")
	r.call("a")
	r.mark("b")
	r.mark("here")
	want := []uint32{0x80000000, 0x441fffff, 0x443ffffe, 0x44400007, 0x44600000, 0x44800005, 0x44a00004, 0x44c00003, 0x48000002, 0x481ffff7}
	if l := r.words(); !slices.Equal(l, want) {
		t.Errorf("%08x; want %08x", l, want)
	}
}

// P7.2: conditions just beyond the edge, and others; nothing is appended, and no jump is left that would fail.
func TestJumpRefused(t *testing.T) {
	r := newRig(t)
	for cond := 7; cond <= math.MaxUint8; cond++ {
		for _, name := range []string{"never", "", "x"} {
			r.is("Jump", r.a.Jump(uint8(cond), name), api.ErrArg)
		}
		r.holds()
		if cond%50 == 0 {
			r.put(plains()[0])
			r.mark(fmt.Sprint("m", cond))
			r.jump(uint8(cond%7), fmt.Sprint("m", cond))
		}
	}
}

// P7.3: jumps that are just not too far, and too far, also so far that their Imm would be valid if it were cut off.
func TestFarJumps(t *testing.T) {
	const edge = 1 << 20
	for _, first := range []int{0, 3} {
		for _, ahead := range []int{edge - 2, edge - 1, edge, edge + 1, 2*edge - 1, 2 * edge, 2*edge + 1, -edge + 1, -edge, -edge - 1, -2 * edge, -2*edge - 1} {
			reached := -edge <= ahead && ahead < edge
			l := list(first)
			far(l, ahead, func() api.Errno { return l.Jump(api.CoGeu, "far") })
			jumped(t, l, first, ahead, branchWord(api.CoGeu, ahead), reached)
			l = list(first)
			far(l, ahead, func() api.Errno { return l.Call("far") })
			jumped(t, l, first, ahead, callWord(ahead), reached)
		}
	}
}

func list(many int) *asm.Asm {
	a := asm.New()
	retts(a, many)
	return a
}

func retts(a *asm.Asm, many int) {
	a.Put(slices.Repeat([]api.Inst{{Op: api.OpRett}}, many)...)
}

// far appends a jump that is so far, and the mark far.
func far(a *asm.Asm, ahead int, jump func() api.Errno) {
	if ahead > 0 {
		jump()
		retts(a, ahead-1)
		a.Mark("far")
		return
	}
	a.Mark("far")
	retts(a, -ahead)
	jump()
}

func jumped(t *testing.T, a *asm.Asm, first, ahead int, want uint32, reached bool) {
	t.Helper()
	at := first
	if ahead < 0 {
		at -= ahead
	}
	l, e := a.Words()
	if !reached {
		if l != nil || e != api.ErrRange {
			t.Errorf("a jump over %d: %s, %d; want nil, ErrRange", ahead, short(l), e)
		}
		return
	}
	if e != api.OK || len(l) != a.Len() || l[at] != want {
		t.Fatalf("a jump over %d: %s, %d; want %08x at %d of %d", ahead, short(l), e, want, at, a.Len())
	}
	for i, w := range l {
		if i != at && w != 0x80000000 {
			t.Fatalf("a jump over %d: %08x at %d; want an OpRett", ahead, w, i)
		}
	}
}

// P7.3: of several jumps' errors Words returns that of the first jump, whichever mark came first.
func TestWhichError(t *testing.T) {
	const beyond = 1<<20 + 1
	build := func(jumps ...string) *rig {
		r := newRig(t)
		r.mark("near")
		for _, name := range jumps {
			r.jump(api.CoAlways, name)
		}
		r.rett(beyond)
		r.mark("far")
		return r
	}
	for _, x := range []struct {
		jumps []string
		want  api.Errno
	}{
		{[]string{"near"}, api.OK},
		{[]string{"none"}, api.ErrNone},
		{[]string{"far"}, api.ErrRange},
		{[]string{"none", "far"}, api.ErrNone},
		{[]string{"far", "none"}, api.ErrRange},
		{[]string{"near", "far", "none", "near"}, api.ErrRange},
		{[]string{"near", "none", "far", "none"}, api.ErrNone},
	} {
		r := build(x.jumps...)
		if _, e := r.a.Words(); e != x.want {
			t.Errorf("jumps to %v: %d; want %d", x.jumps, e, x.want)
		}
		r.holds()
	}
	r := build("none", "far")
	r.call("near")
	r.mark("none")
	if _, e := r.a.Words(); e != api.ErrRange {
		t.Errorf("a call that is too far: %d; want ErrRange", e)
	}
	r = build("near")
	r.call("near")
	r.jump(api.CoEq, "none")
	if _, e := r.a.Words(); e != api.ErrRange {
		t.Errorf("a call back that is too far, then no mark: %d; want ErrRange", e)
	}
}

// P7.3: Words called twice, and again after more was appended and marked, also after an error.
func TestWordsAgain(t *testing.T) {
	r := newRig(t)
	r.holds()
	r.call("later")
	r.jump(api.CoNe, "latest")
	r.holds()
	r.put(plains()...)
	r.mark("later")
	r.holds()
	r.mark("latest")
	first := r.words()
	r.holds()
	second := r.words()
	if !slices.Equal(first, second) {
		t.Errorf("twice: %08x, %08x", first, second)
	}
	r.put(plains()[1])
	r.constant(4, 0x12345678)
	r.jump(api.CoEq, "later")
	if l := r.words(); !slices.Equal(l[:len(first)], first) {
		t.Errorf("%08x; want first %08x", l, first)
	}
	r.call("never")
	r.holds()
	r.holds()
	r.mark("never")
}

// P7.3: a copy and its list are independent, both ways, in instructions, marks and jumps.
func TestCopies(t *testing.T) {
	r := newRig(t)
	both := func(c *rig) {
		t.Helper()
		r.holds()
		c.holds()
	}
	both(r.copy())
	r.put(plains()[:3]...)
	r.mark("x")
	r.call("y")
	r.jump(api.CoLtu, "x")
	c := r.copy()
	c.put(plains()[4])
	both(c)
	r.put(plains()[5:7]...)
	both(c)
	// Each has a y of its own, at another position, for the call that both have.
	c.mark("y")
	both(c)
	r.put(plains()[8])
	r.mark("y")
	both(c)
	c.jump(api.CoGe, "never")
	both(c)
	r.call("x")
	both(c)
	r.mark("never")
	both(c)
	d := c.copy()
	d.mark("never")
	both(c)
	c.put(plains()[1])
	c.mark("never")
	both(c)
	d.holds()
	d.copy().call("gone")
	d.holds()
}

// P7.3: what follows a copy, at any length, is the list's own; nothing is appended in the other's spare capacity.
func TestCopiesAtAnyLength(t *testing.T) {
	r := newRig(t)
	for n := range 70 {
		c := r.copy()
		d := c.copy()
		c.jump(api.CoEq, "c")
		r.jump(api.CoNe, "r")
		d.call("d")
		c.mark("c")
		d.mark("d")
		r.holds()
		c.holds()
		d.holds()
		r.put(plains()[n%len(plains())])
		c.holds()
		d.holds()
	}
	r.mark("r")
}

// R5: what Put was given is not changed, nor kept, with its spare capacity.
func TestGivenApart(t *testing.T) {
	r := newRig(t)
	whole := make([]api.Inst, 0, 8)
	var words []plain
	for _, p := range plains()[:8] {
		whole, words = append(whole, p.x), append(words, p)
	}
	was := slices.Clone(whole)
	l := whole[1:4]
	r.want.put(words[1].w, words[2].w, words[3].w)
	r.is("Put", r.a.Put(l...), api.OK)
	r.put(plains()[9])
	r.is("Put of a list that is not valid", r.a.Put(append(slices.Clone(l), api.Inst{})...), api.ErrArg)
	if !slices.Equal(whole, was) {
		t.Errorf("the list became %v", whole)
	}
	clear(whole)
	r.holds()
}

// R5: what Words returned is not the list's own, with its spare capacity, and stays as it was.
func TestWordsApart(t *testing.T) {
	r := newRig(t)
	r.mark("x")
	var kept, wanted [][]uint32
	for n := range 40 {
		r.put(plains()[n%len(plains())])
		r.jump(api.CoAlways, "x")
		l, again := r.words(), r.words()
		kept, wanted = append(kept, again), append(wanted, slices.Clone(again))
		l = l[:cap(l)]
		for i := range l {
			l[i] = 0xbadbad
		}
		r.holds()
		if !slices.Equal(again, wanted[n]) {
			t.Fatalf("%d: one answer shares memory with another", n)
		}
	}
	r.copy().put(plains()...)
	for n := range kept {
		if !slices.Equal(kept[n], wanted[n]) {
			t.Fatalf("%d: what Words returned became %08x", n, kept[n])
		}
	}
}

// noObjects are lists that neither New nor Copy returned.
func noObjects() []*asm.Asm {
	used := asm.New()
	used.Put(plains()[0].x, plains()[1].x)
	used.Mark("x")
	used.Jump(api.CoAlways, "x")
	assigned, empty := *used, *asm.New()
	return []*asm.Asm{nil, {}, new(asm.Asm), &assigned, &empty}
}

// P7.1 to P7.3, R1 to R3: every call without an object; ErrNil comes before all other errors.
func TestNoObject(t *testing.T) {
	for i, a := range noObjects() {
		is := func(what string, e api.Errno) {
			t.Helper()
			if e != api.ErrNil {
				t.Errorf("%d: %s = %d; want ErrNil", i, what, e)
			}
		}
		for range 2 {
			is("Put()", a.Put())
			is("Put(nil)", a.Put(nil...))
			is("Put", a.Put(plains()[0].x))
			is("Put of what is not valid", a.Put(notValid()...))
			for _, name := range []string{"x", "", "y"} {
				is("Mark", a.Mark(name))
				is("Call", a.Call(name))
				is("Jump", a.Jump(6, name))
				is("Jump beyond the conditions", a.Jump(7, name))
				at, e := a.At(name)
				is("At", e)
				if at != 0 {
					t.Errorf("%d: At(%q) = %d; want 0", i, name, at)
				}
			}
			is("Const", a.Const(1, 5))
			is("Const", a.Const(1, 0x12345678))
			is("Const beyond the registers", a.Const(32, 5))
			l, e := a.Words()
			is("Words", e)
			if l != nil || a.Len() != 0 || a.Copy() != nil {
				t.Errorf("%d: Words %08x, Len %d, Copy %p; want none", i, l, a.Len(), a.Copy())
			}
		}
	}
}

// P7.3: a list that was assigned from an object changes nothing of it.
func TestAssignedApart(t *testing.T) {
	r := newRig(t)
	r.put(plains()[:3]...)
	r.jump(api.CoAlways, "y")
	assigned := *r.a
	assigned.Put(plains()[4].x)
	assigned.Mark("y")
	assigned.Call("x")
	r.holds()
	r.mark("y")
}

// noise returns numbers that are always the same, from 0 to below n.
func noise(seed uint64) func(n int) int {
	return func(n int) int {
		seed = seed*6364136223846793005 + 1442695040888963407
		return int(seed>>33) % n
	}
}

// P7.1 to P7.4, R4: long sequences of all calls, on several lists and their copies, beside their models.
func TestSequences(t *testing.T) {
	for seed := range uint64(60) {
		next := noise(seed)
		rigs := []*rig{newRig(t)}
		for range 150 {
			i := next(len(rigs))
			act(rigs[i], next)
			if next(12) == 0 && len(rigs) < 5 {
				rigs = append(rigs, rigs[i].copy())
			}
			for _, r := range rigs {
				r.holds()
			}
		}
		for _, r := range rigs {
			for _, name := range names() {
				r.mark(name)
			}
			r.words()
		}
	}
}

// act does one thing to a list, and to its model.
func act(r *rig, next func(n int) int) {
	r.t.Helper()
	name := names()[next(len(names()))]
	switch next(9) {
	case 0:
		r.put(plains()[next(len(plains())):]...)
	case 1:
		r.put(plains()[next(len(plains()))])
	case 2:
		bad := notValid()[next(len(notValid()))]
		r.is("Put", r.a.Put(plains()[0].x, bad, plains()[1].x), api.ErrArg)
	case 3:
		r.mark(name)
	case 4:
		r.jump(uint8(next(7)), name)
	case 5:
		r.call(name)
	case 6:
		r.constant(uint8(next(32)), edges()[next(len(edges()))])
	case 7:
		r.is("Const", r.a.Const(uint8(32+next(224)), uint32(next(1<<30))), api.ErrArg)
	case 8:
		r.is("Jump", r.a.Jump(uint8(7+next(249)), name), api.ErrArg)
	}
}
