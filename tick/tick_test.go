package tick_test

import (
	"math"
	"slices"
	"testing"

	"muntin/api"
	"muntin/asm"
	"muntin/tick"
)

// names are the marks of the levels from 1 on.
func names() []string {
	return []string{
		"tick1", "tick2", "tick3", "tick4", "tick5", "tick6", "tick7", "tick8",
		"tick9", "tick10", "tick11", "tick12", "tick13", "tick14", "tick15",
	}
}

// handlerOf are the words of a level's handler, as the chapter has them.
func handlerOf(level int) []uint32 {
	return []uint32{0x58208000 + 4*uint32(level), 0x04218001, 0x5c208000 + 4*uint32(level), 0x80000000}
}

// notLevels are numbers that are no levels: just beyond the edges, such as would be levels if they were cut off, and the farthest ones.
func notLevels() []int {
	return []int{
		0, 16, -1, -2, -3, -15, -16, 17, 18, 31, 32, 33, 64, 100, 255, 256, 256 + 1, 256 + 3, 256 + 15, 1 << 15, 1<<15 + 3, 1<<16 + 1, 1<<16 + 15,
		1<<31 + 3, 1<<32 + 1, 1<<32 + 15, 1<<32 - 1, 3 - 1<<32, 1 - 1<<32, 15 - 1<<16, 3 - 256, math.MinInt, math.MinInt + 1, math.MinInt + 3, math.MaxInt, math.MaxInt - 1,
		math.MaxInt32, math.MinInt32, math.MinInt32 + 1,
	}
}

// strange are names that are not the mark of any level.
func strange() []string {
	return []string{
		"", "tick", "tick0", "tick16", "tick01", "tick015", "tick-1", "tick+1", "tick1 ", " tick1", "Tick1", "TICK1", "1", "tick 1", "tick_1",
		"tick100", "tick151", "tickf", "tickF", "tock1", "over", "under", "yield", "end", "swap", "start", "first1", "f0",
	}
}

// P9.1: the mark of every level, and of what is none.
func TestNames(t *testing.T) {
	for i, want := range names() {
		if s := tick.Name(i + 1); s != want {
			t.Errorf("Name(%d) = %q; want %q", i+1, s, want)
		}
	}
	for _, level := range notLevels() {
		if s := tick.Name(level); s != "" {
			t.Errorf("Name(%d) = %q; want nothing", level, s)
		}
	}
	for level := -1000; level <= 1000; level++ {
		if s := tick.Name(level); (s != "") != (1 <= level && level <= 15) {
			t.Errorf("Name(%d) = %q", level, s)
		}
	}
}

// The chapter's examples.
func TestExamples(t *testing.T) {
	if a, b, c := tick.Name(3), tick.Name(15), tick.Name(0); a != "tick3" || b != "tick15" || c != "" {
		t.Errorf("Name: %q, %q, %q", a, b, c)
	}
	a := asm.New()
	ok(t, tick.Tick(a, 3))
	if l := words(t, a); !slices.Equal(l, []uint32{0x5820800c, 0x04218001, 0x5c20800c, 0x80000000}) {
		t.Errorf("Tick(a, 3): %08x", l)
	}
	if e := tick.Tick(a, 16); e != api.ErrArg {
		t.Errorf("Tick(a, 16) = %d; want ErrArg", e)
	}
	if e := tick.Tick(a, 3); e != api.ErrState {
		t.Errorf("Tick(a, 3) again = %d; want ErrState", e)
	}
}

// same tells whether a list is as another one: in its words, its length, and its marks.
func same(t *testing.T, a, b *asm.Asm, what string) {
	t.Helper()
	if l, want := words(t, a), words(t, b); !slices.Equal(l, want) || a.Len() != b.Len() {
		t.Fatalf("%s: %08x; want %08x", what, l, want)
	}
	for _, name := range slices.Concat(names(), strange(), []string{"first", "last"}) {
		at, e := a.At(name)
		if want, err := b.At(name); at != want || e != err {
			t.Fatalf("%s: At(%q) = %d, %d; want %d, %d", what, name, at, e, want, err)
		}
	}
}

// appended tells whether a list is as it was before, with the handlers of these levels behind, at their marks, and no other mark.
func appended(t *testing.T, a, before *asm.Asm, levels ...int) {
	t.Helper()
	want := before.Copy()
	for _, level := range levels {
		ok(t, want.Mark(names()[level-1]))
		ok(t, want.Put(
			api.Inst{Op: api.OpLd, Rd: 1, Is: true, Imm: int32(4 * level)},
			api.Inst{Op: api.OpAlu + api.AlAdd, Rd: 1, Rs1: 1, Is: true, Imm: 1},
			api.Inst{Op: api.OpSt, Rd: 1, Is: true, Imm: int32(4 * level)},
			api.Inst{Op: api.OpRett},
		))
	}
	same(t, a, want, "a list with handlers")
	l := words(t, a)
	for i, level := range levels {
		at := before.Len() + 4*i
		if got := l[at : at+4]; !slices.Equal(got, handlerOf(level)) {
			t.Fatalf("the handler of the level %d is %08x; want %08x", level, got, handlerOf(level))
		}
		if got, e := a.At(names()[level-1]); got != at || e != api.OK {
			t.Fatalf("the mark of the level %d is at %d, %d; want %d", level, got, e, at)
		}
	}
}

// P9.1: the handler of every level, in an empty list, and behind other instructions; no other mark comes with it.
func TestEveryLevel(t *testing.T) {
	for level := 1; level <= 15; level++ {
		for _, a := range []*asm.Asm{asm.New(), filled(t), filled(t).Copy()} {
			before := a.Copy()
			ok(t, tick.Tick(a, level))
			appended(t, a, before, level)
			for _, name := range strange() {
				ok(t, a.Mark(name))
			}
		}
	}
}

// P9.1: several levels in a list, in any order, also with other instructions between them, and through copies.
func TestSeveralLevels(t *testing.T) {
	for _, levels := range [][]int{
		{1, 15}, {15, 1}, {10, 1}, {1, 10, 11, 12, 13, 14, 15}, {3, 2, 5, 4, 7, 6, 9, 8}, {15, 14, 13, 12, 11, 10, 9, 8, 7, 6, 5, 4, 3, 2, 1},
	} {
		a, before := filled(t), filled(t)
		for _, level := range levels {
			ok(t, tick.Tick(a, level))
			a = a.Copy()
		}
		appended(t, a, before, levels...)
		for _, level := range levels {
			ok(t, a.Put(api.Inst{Op: api.OpHalt, Rs1: uint8(level)}))
			refused(t, a, level, api.ErrState)
		}
	}
	a := asm.New()
	for level := 15; level >= 1; level-- {
		ok(t, a.Put(api.Inst{Op: api.OpOut, Rs1: uint8(level)}))
		before := a.Copy()
		ok(t, tick.Tick(a, level))
		appended(t, a, before, level)
	}
}

// refused has Tick return an error, and append nothing.
func refused(t *testing.T, a *asm.Asm, level int, want api.Errno) {
	t.Helper()
	before := a.Copy()
	if e := tick.Tick(a, level); e != want {
		t.Fatalf("Tick of the level %d = %d; want %d", level, e, want)
	}
	same(t, a, before, "a list after a Tick that was refused")
}

// allRefused has All return ErrState, and append nothing.
func allRefused(t *testing.T, a *asm.Asm) {
	t.Helper()
	before := a.Copy()
	if e := tick.All(a); e != api.ErrState {
		t.Fatalf("All = %d; want ErrState", e)
	}
	same(t, a, before, "a list after an All that was refused")
}

// P9.1: levels beyond the edges, in lists without handlers and with all of them: ErrArg comes before ErrState.
func TestNotLevels(t *testing.T) {
	empty := asm.New()
	ok(t, empty.Mark(""))
	odd := asm.New()
	for _, name := range strange() {
		ok(t, odd.Mark(name))
	}
	for _, a := range []*asm.Asm{asm.New(), filled(t), all(t), empty, odd} {
		for _, level := range notLevels() {
			refused(t, a, level, api.ErrArg)
		}
	}
	for _, level := range []int{1, 15} {
		ok(t, tick.Tick(empty, level))
		ok(t, tick.Tick(odd, level))
	}
}

// P9.1: the mark exists already: from a call before, or set by hand, at any position; other levels are nothing to it.
func TestMarkExists(t *testing.T) {
	for level := 1; level <= 15; level++ {
		a := asm.New()
		ok(t, a.Mark(names()[level-1]))
		refused(t, a, level, api.ErrState)
		ok(t, a.Put(api.Inst{Op: api.OpRett}))
		refused(t, a, level, api.ErrState)
		other := level%15 + 1
		before := a.Copy()
		ok(t, tick.Tick(a, other))
		appended(t, a, before, other)
		refused(t, a, level, api.ErrState)
		refused(t, a, other, api.ErrState)

		b := filled(t)
		ok(t, tick.Tick(b, level))
		refused(t, b, level, api.ErrState)
		refused(t, b.Copy(), level, api.ErrState)
		ok(t, tick.Tick(b.Copy(), other))
		refused(t, all(t), level, api.ErrState)
	}
}

// increasing are all levels.
func increasing() []int { return []int{1, 2, 3, 4, 5, 6, 7, 8, 9, 10, 11, 12, 13, 14, 15} }

// P9.2: all levels, in increasing order, in an empty list and behind other instructions, whatever other marks there are.
func TestAll(t *testing.T) {
	odd := filled(t)
	for _, name := range strange() {
		ok(t, odd.Mark(name))
	}
	for _, a := range []*asm.Asm{asm.New(), filled(t), odd, odd.Copy()} {
		before := a.Copy()
		ok(t, tick.All(a))
		appended(t, a, before, increasing()...)
		if a.Len() != before.Len()+60 {
			t.Errorf("%d instructions; want 60 more than %d", a.Len(), before.Len())
		}
	}
}

// P9.2: any one of the marks exists already, from a call before or set by hand; or any two; or all but one; or all.
func TestAllMarkExists(t *testing.T) {
	for level := 1; level <= 15; level++ {
		a, b := filled(t), asm.New()
		ok(t, tick.Tick(a, level))
		allRefused(t, a)
		ok(t, b.Mark(names()[level-1]))
		allRefused(t, b)
		ok(t, b.Put(api.Inst{Op: api.OpRett}))
		allRefused(t, b)

		but := asm.New()
		for other := 1; other <= 15; other++ {
			if other == level {
				continue
			}
			c := a.Copy()
			ok(t, tick.Tick(c, other))
			allRefused(t, c)
			ok(t, tick.Tick(but, other))
			allRefused(t, but)
		}
		ok(t, tick.Tick(but, level))
		allRefused(t, but)
	}
	a := all(t)
	allRefused(t, a)
	allRefused(t, a.Copy())
	for level := 1; level <= 15; level++ {
		refused(t, a, level, api.ErrState)
	}
}

// P9.2: what was refused does not stand in the way of what comes after it.
func TestAfterRefused(t *testing.T) {
	a := filled(t)
	ok(t, tick.Tick(a, 9))
	allRefused(t, a)
	before := a.Copy()
	for _, level := range []int{1, 2, 8, 10, 15} {
		ok(t, tick.Tick(a, level))
	}
	appended(t, a, before, 1, 2, 8, 10, 15)
}

// P9.1, P9.2: jumps to the marks lead to the handlers, whether they come before or after.
func TestJumpsToMarks(t *testing.T) {
	for level := 1; level <= 15; level++ {
		a := asm.New()
		ok(t, a.Jump(api.CoAlways, names()[level-1]))
		if _, e := a.Words(); e != api.ErrNone {
			t.Fatalf("Words = %d; want ErrNone", e)
		}
		ok(t, tick.All(a))
		ok(t, a.Call(names()[level-1]))
		at := 1 + 4*(level-1)
		l := words(t, a)
		first, last := word(t, api.Inst{Op: api.OpBr, Is: true, Imm: int32(at)}), word(t, api.Inst{Op: api.OpCall, Is: true, Imm: int32(at - 61)})
		if l[0] != first || l[61] != last {
			t.Errorf("level %d: the jumps are %08x and %08x; want %08x and %08x", level, l[0], l[61], first, last)
		}
	}
}

// P9.1, P9.2, R5: a copy has what its list had, and what is appended to one is not in the other.
func TestListsApart(t *testing.T) {
	a, b := filled(t), filled(t)
	c := a.Copy()
	ok(t, tick.Tick(a, 4))
	same(t, c, b, "a copy")
	ok(t, tick.Tick(c, 4))
	same(t, c, a, "a copy with the same handler")
	ok(t, tick.Tick(c, 5))
	ok(t, tick.All(b))
	d := a.Copy()
	appended(t, a, filled(t), 4)
	appended(t, b, filled(t), increasing()...)
	appended(t, c, filled(t), 4, 5)
	same(t, d, a, "a copy")
	ok(t, tick.All(asm.New()))
}

// R4: the same calls return the same, whatever was called before on other lists.
func TestAlwaysTheSame(t *testing.T) {
	want := words(t, all(t))
	for range 3 {
		a := filled(t)
		tick.Tick(a, 7)
		tick.All(a)
		tick.All(nil)
		tick.Tick(nil, 7)
		if l := words(t, all(t)); !slices.Equal(l, want) {
			t.Fatalf("%08x; want %08x", l, want)
		}
	}
}

// noLists are lists that neither New nor Copy returned.
func noLists(t *testing.T) []*asm.Asm {
	t.Helper()
	assigned, full, empty := *filled(t), *all(t), *asm.New()
	return []*asm.Asm{nil, {}, new(asm.Asm), &assigned, &full, &empty, (*asm.Asm)(nil).Copy(), new(asm.Asm).Copy()}
}

// P9.1, P9.2, R1, R2: every call without a list, again and again; that error comes before all others.
func TestNoList(t *testing.T) {
	for i, a := range noLists(t) {
		for range 2 {
			for _, level := range slices.Concat(notLevels(), increasing()) {
				if e := tick.Tick(a, level); e != api.ErrNil {
					t.Errorf("%d: Tick(a, %d) = %d; want ErrNil", i, level, e)
				}
			}
			if e := tick.All(a); e != api.ErrNil {
				t.Errorf("%d: All = %d; want ErrNil", i, e)
			}
		}
		if n := a.Len(); n != 0 {
			t.Errorf("%d: Len = %d; want 0", i, n)
		}
	}
}

// R5: a list that was assigned from an object changes nothing of it.
func TestAssignedApart(t *testing.T) {
	a, want := filled(t), filled(t)
	assigned := *a
	for level := 1; level <= 15; level++ {
		tick.Tick(&assigned, level)
	}
	tick.All(&assigned)
	same(t, a, want, "a list that was assigned")
	ok(t, tick.All(a))
}
