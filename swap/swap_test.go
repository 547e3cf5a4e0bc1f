package swap_test

import (
	"math"
	"slices"
	"testing"

	"muntin/api"
	"muntin/asm"
	"muntin/inst"
	"muntin/swap"
	"muntin/tick"
	"muntin/wind"
)

// reserved are the marks that the chapter names, and the one of the given tests.
func reserved() []string { return []string{"yield", "end", "swap", "swap.it"} }

// free are marks that are not reserved for the handlers, though some are much like those.
func free() []string {
	return []string{"", "Yield", "END", "Swap", "yiel", "en", "swa", " yield", " end", " swap", "the end", "over", "under", "tick1", "tick15", "start", "f0", "t0", "send", "store", "it"}
}

// same tells whether a list is as another one: in its words, and in marks by these names.
func same(t *testing.T, a, b *asm.Asm, what string) {
	t.Helper()
	if l, want := words(t, a), words(t, b); !slices.Equal(l, want) {
		t.Fatalf("%s: %08x; want %08x", what, l, want)
	}
	inner := []string{"first", "last", "swap.store", "swap.stored", "swap.count", "swap.find"}
	for _, name := range slices.Concat(reserved(), free(), inner) {
		at, e := a.At(name)
		if want, err := b.At(name); at != want || e != err {
			t.Fatalf("%s: At(%q) = %d, %d; want %d, %d", what, name, at, e, want, err)
		}
	}
}

// refused calls what must return an error, and append nothing, and set no mark.
func refused(t *testing.T, a *asm.Asm, nw int, want api.Errno) {
	t.Helper()
	before := a.Copy()
	if e := swap.All(a, nw); e != want {
		t.Fatalf("All of %d windows = %d; want %d", nw, e, want)
	}
	same(t, a, before, "a list that was refused")
}

// P10.1: all numbers of windows, in an empty list and behind others: at most 110 instructions, all of them valid, of which the marks name two, each of another handler.
func TestHandlers(t *testing.T) {
	for nw := 2; nw <= 32; nw++ {
		for _, a := range []*asm.Asm{asm.New(), filled(t)} {
			before := words(t, a)
			ok(t, swap.All(a, nw))
			l := words(t, a)
			if !slices.Equal(l[:len(before)], before) {
				t.Fatalf("%d windows: %08x; want first %08x", nw, l, before)
			}
			many := len(l) - len(before)
			if many < 34 || many > 110 || a.Len() != len(l) {
				t.Fatalf("%d windows: %d instructions, Len %d", nw, many, a.Len())
			}
			valid(t, l)
			yield, e := a.At("yield")
			ok(t, e)
			end, e := a.At("end")
			ok(t, e)
			if yield < len(before) || yield >= len(l) || end < len(before) || end >= len(l) || yield == end {
				t.Fatalf("%d windows: yield at %d, end at %d, of %d to %d", nw, yield, end, len(before), len(l))
			}
		}
	}
}

func valid(t *testing.T, l []uint32) {
	t.Helper()
	for _, w := range l {
		if _, is := inst.Decode(w); !is {
			t.Fatalf("%08x is not the word of an instruction", w)
		}
	}
}

// P10.1: each handler ends with OpRett: what comes behind both of them is not executed, whichever there is.
func TestNothingBehind(t *testing.T) {
	for _, nw := range []int{2, 3, 32} {
		l := words(t, both(t, nw))
		if !slices.Contains(l, uint32(rett)) {
			t.Errorf("%d windows: no OpRett in %08x", nw, l)
		}
		a := both(t, nw)
		ok(t, a.Put(api.Inst{Op: api.OpFault, Is: true, Imm: 3}))
		for _, kind := range []int{3, 4} {
			m := machine(t, nw, a, size)
			about(t, m, kind, 0, 1)
			traps(t, m, kind, 1, "with a fault behind")
		}
	}
}

// P10.1, R4: what is appended is the same in every list, and behind whatever else: jumps do not depend on where it is.
func TestAlwaysTheSame(t *testing.T) {
	for nw := 2; nw <= 32; nw++ {
		want := words(t, both(t, nw))
		a := filled(t)
		ok(t, wind.Over(a, nw))
		ok(t, wind.Store(a))
		ok(t, tick.All(a))
		before := words(t, a)
		c := a.Copy()
		ok(t, swap.All(c, nw))
		ok(t, swap.All(a, nw))
		ok(t, wind.Under(a, nw))
		for i, l := range [][]uint32{words(t, a)[len(before):], words(t, c)[len(before):], words(t, both(t, nw))} {
			if !slices.Equal(l[:len(want)], want) {
				t.Fatalf("%d, of %d windows: %08x; want %08x", i, nw, l, want)
			}
		}
		same(t, both(t, nw), both(t, nw), "twice")
	}
}

// notNumbers are numbers of windows that there are not: just beyond the edges, such as would be valid if they were cut off, and the farthest ones.
func notNumbers() []int {
	return []int{
		1, 0, -1, -2, -8, -32, 33, 34, 64, 128, 256 + 2, 256 + 8, 1<<15 + 8, 1<<16 + 8, 1<<31 + 8, 1<<32 + 2, 1<<32 + 8, 1<<32 + 32,
		8 - 1<<32, 2 - 1<<32, math.MinInt, math.MinInt + 8, math.MaxInt, math.MaxInt - 1, math.MaxInt32, math.MinInt32,
	}
}

// P10.1: numbers of windows at the edges, and beyond them; what is refused leaves everything as it was.
func TestNumbersOfWindows(t *testing.T) {
	for _, first := range []*asm.Asm{asm.New(), filled(t)} {
		for _, nw := range notNumbers() {
			refused(t, first, nw, api.ErrArg)
		}
		for _, nw := range []int{2, 3, 31, 32} {
			ok(t, swap.All(first.Copy(), nw))
		}
	}
}

// P10.1: one of the marks exists already: from a call before, or set by hand, at any position, alone and with others.
func TestMarkExists(t *testing.T) {
	for _, nw := range []int{2, 3, 8, 32} {
		for set := 1; set < 1<<len(reserved()); set++ {
			for _, a := range []*asm.Asm{asm.New(), filled(t)} {
				for i, name := range reserved() {
					if set>>i&1 == 1 {
						ok(t, a.Mark(name))
					}
				}
				refused(t, a, nw, api.ErrState)
				refused(t, a.Copy(), nw, api.ErrState)
				ok(t, a.Put(api.Inst{Op: api.OpRett}))
				refused(t, a, nw, api.ErrState)
				refused(t, a, nw, api.ErrState)
			}
		}
	}
}

// P10.1: a second call is refused, for every number of windows, also in a copy, and after whatever else.
func TestTwice(t *testing.T) {
	for _, nw := range []int{2, 3, 32} {
		for _, a := range []*asm.Asm{both(t, nw), both(t, nw).Copy()} {
			for n := 2; n <= 32; n++ {
				refused(t, a, n, api.ErrState)
			}
			ok(t, wind.Over(a, nw))
			ok(t, wind.Under(a, nw))
			ok(t, tick.All(a))
			refused(t, a, nw, api.ErrState)
		}
	}
}

// P10.1, R2: a number of windows that is not valid comes before a mark that exists.
func TestOrderOfErrors(t *testing.T) {
	full := both(t, 3)
	for _, name := range reserved() {
		a := filled(t)
		ok(t, a.Mark(name))
		for _, nw := range notNumbers() {
			refused(t, a, nw, api.ErrArg)
			refused(t, full, nw, api.ErrArg)
		}
		refused(t, a, 3, api.ErrState)
		refused(t, full, 3, api.ErrState)
	}
}

// P10.1: no other mark is set, or is an obstacle; jumps to marks that do not exist are none either.
func TestOtherMarks(t *testing.T) {
	after := both(t, 8)
	before := asm.New()
	for _, name := range free() {
		ok(t, after.Mark(name))
		ok(t, before.Mark(name))
	}
	ok(t, swap.All(before, 8))
	if l, want := words(t, before), words(t, both(t, 8)); !slices.Equal(l, want) {
		t.Errorf("%08x; want %08x", l, want)
	}

	a := asm.New()
	ok(t, a.Call("yield"))
	ok(t, a.Jump(api.CoAlways, "end"))
	ok(t, a.Jump(api.CoNe, "later"))
	ok(t, swap.All(a, 8))
	if _, e := a.Words(); e != api.ErrNone {
		t.Errorf("Words = %d; want ErrNone", e)
	}
	ok(t, a.Mark("later"))
	l := words(t, a)
	for i, name := range []string{"yield", "end", "later"} {
		at, e := a.At(name)
		ok(t, e)
		if x, is := inst.Decode(l[i]); !is || int(x.Imm) != at-i {
			t.Errorf("the jump to %q is %v; want Imm %d", name, x, at-i)
		}
	}
	if !slices.Equal(l[3:], words(t, both(t, 8))) {
		t.Errorf("%08x; want behind the jumps %08x", l, words(t, both(t, 8)))
	}
}

// P10.1: handlers for several numbers of windows are in lists of their own; a copy has what its list had, and what is appended to one is not in the other.
func TestListsApart(t *testing.T) {
	a, b := filled(t), filled(t)
	c := a.Copy()
	ok(t, swap.All(a, 2))
	same(t, c, b, "a copy")
	ok(t, swap.All(c, 2))
	same(t, c, a, "a copy with the same handlers")
	ok(t, c.Put(api.Inst{Op: api.OpRett}))
	ok(t, c.Mark("start"))
	ok(t, swap.All(b, 2))
	same(t, a, b, "a list")
	ok(t, swap.All(asm.New(), 32))
	ok(t, swap.All(asm.New(), 3))
	same(t, a, b, "a list, after others")
}

// noLists are lists that neither New nor Copy returned.
func noLists(t *testing.T) []*asm.Asm {
	t.Helper()
	assigned, full, empty := *filled(t), *both(t, 3), *asm.New()
	return []*asm.Asm{nil, {}, new(asm.Asm), &assigned, &full, &empty}
}

// P10.1, R1, R2: without a list; that error comes before all others.
func TestNoList(t *testing.T) {
	for i, a := range noLists(t) {
		for range 2 {
			for _, nw := range append(notNumbers(), 2, 3, 8, 31, 32) {
				if e := swap.All(a, nw); e != api.ErrNil {
					t.Errorf("%d: All of %d windows = %d; want ErrNil", i, nw, e)
				}
			}
		}
	}
}

// P10.1, R5: a list that was assigned from an object changes nothing of it.
func TestAssignedApart(t *testing.T) {
	a, want := filled(t), filled(t)
	assigned := *a
	swap.All(&assigned, 3)
	same(t, a, want, "a list that was assigned")
	ok(t, swap.All(a, 3))
}
