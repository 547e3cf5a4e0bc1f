package wind_test

import (
	"math"
	"slices"
	"testing"

	"muntin/api"
	"muntin/asm"
	"muntin/inst"
	"muntin/wind"
)

const rett = 0x80000000

// handler is a call that appends a handler, with its mark.
type handler struct {
	mark string
	put  func(a *asm.Asm, nw int) api.Errno
}

func bothHandlers() []handler {
	return []handler{{"over", wind.Over}, {"under", wind.Under}}
}

// otherOf is the handler that h is not.
func otherOf(h handler) handler {
	for _, other := range bothHandlers() {
		if other.mark != h.mark {
			return other
		}
	}
	return handler{}
}

// filled returns a list that has instructions, marks and jumps.
func filled(t *testing.T) *asm.Asm {
	t.Helper()
	a := asm.New()
	ok(t, a.Mark("first"))
	ok(t, a.Put(api.Inst{Op: api.OpRett}, api.Inst{Op: api.OpOut, Rs1: 1}))
	ok(t, a.Jump(api.CoNe, "first"))
	ok(t, a.Call("last"))
	ok(t, a.Mark("last"))
	return a
}

// same tells whether a list is as another one: in its words, and in marks by these names.
func same(t *testing.T, a, b *asm.Asm, what string) {
	t.Helper()
	if l, want := words(t, a), words(t, b); !slices.Equal(l, want) {
		t.Fatalf("%s: %08x; want %08x", what, l, want)
	}
	for _, name := range []string{"over", "under", "first", "last", "", "Over", "over0", "yield", "end", "swap"} {
		at, e := a.At(name)
		if want, err := b.At(name); at != want || e != err {
			t.Fatalf("%s: At(%q) = %d, %d; want %d, %d", what, name, at, e, want, err)
		}
	}
}

// refused calls what must return an error, and append nothing.
func refused(t *testing.T, a *asm.Asm, h handler, nw int, want api.Errno) {
	t.Helper()
	before := a.Copy()
	if e := h.put(a, nw); e != want {
		t.Fatalf("%s of %d windows = %d; want %d", h.mark, nw, e, want)
	}
	same(t, a, before, h.mark+" that was refused")
}

// P8.1: all numbers of windows; the handler is what comes after its mark, has at most 40 instructions, all of them valid, and ends with OpRett.
func TestHandlers(t *testing.T) {
	for nw := 2; nw <= 32; nw++ {
		for _, h := range bothHandlers() {
			for _, a := range []*asm.Asm{asm.New(), filled(t)} {
				before := words(t, a)
				ok(t, h.put(a, nw))
				l := words(t, a)
				if at, e := a.At(h.mark); at != len(before) || e != api.OK {
					t.Fatalf("At(%q) = %d, %d; want %d", h.mark, at, e, len(before))
				}
				if !slices.Equal(l[:len(before)], before) {
					t.Fatalf("%s of %d windows: %08x; want first %08x", h.mark, nw, l, before)
				}
				l = l[len(before):]
				if len(l) < 17 || len(l) > 40 || l[len(l)-1] != rett {
					t.Fatalf("%s of %d windows: %08x", h.mark, nw, l)
				}
				valid(t, l)
			}
		}
	}
}

func valid(t *testing.T, l []uint32) {
	t.Helper()
	for _, w := range l {
		if _, is := inst.Decode(w); !is {
			t.Fatalf("%08x is not the word of an instruction", w)
		}
	}
}

// P8.1: a handler has its own mark alone.
func TestOwnMark(t *testing.T) {
	for _, h := range bothHandlers() {
		a := asm.New()
		ok(t, h.put(a, 8))
		if at, e := a.At(otherOf(h).mark); at != 0 || e != api.ErrNone {
			t.Errorf("after %s: At(%q) = %d, %d; want 0, ErrNone", h.mark, otherOf(h).mark, at, e)
		}
		for _, name := range []string{"", "yield", "end", "swap", "tick1", "f0", "t0"} {
			ok(t, a.Mark(name))
		}
	}
}

// P8.1, P8.2, R4: what is appended is the same in every list, in either order, and behind whatever else.
func TestAlwaysTheSame(t *testing.T) {
	for _, nw := range []int{2, 3, 8, 31, 32} {
		a, b := asm.New(), asm.New()
		ok(t, wind.Over(a, nw))
		ok(t, wind.Under(b, nw))
		over, under := words(t, a), words(t, b)
		ok(t, wind.Under(a, nw))
		ok(t, wind.Over(b, nw))
		c := filled(t)
		first := words(t, c)
		ok(t, wind.Store(c))
		ok(t, wind.Under(c, nw))
		ok(t, wind.Load(c))
		ok(t, wind.Over(c.Copy(), nw))
		ok(t, wind.Over(c, nw))
		store, load := frameWords(t, wind.Store), frameWords(t, wind.Load)
		for i, x := range []struct{ got, want []uint32 }{
			{words(t, a), slices.Concat(over, under)},
			{words(t, b), slices.Concat(under, over)},
			{words(t, c), slices.Concat(first, store, under, load, over)},
		} {
			if !slices.Equal(x.got, x.want) {
				t.Errorf("%d, of %d windows: %08x; want %08x", i, nw, x.got, x.want)
			}
		}
	}
}

func frameWords(t *testing.T, put func(*asm.Asm) api.Errno) []uint32 {
	t.Helper()
	a := asm.New()
	ok(t, put(a))
	return words(t, a)
}

// notNumbers are numbers of windows that there are not: just beyond the edges, such as would be valid if they were cut off, and the farthest ones.
func notNumbers() []int {
	return []int{
		1, 0, -1, -2, -8, -32, 33, 34, 64, 128, 256 + 2, 256 + 8, 1<<15 + 8, 1<<16 + 8, 1<<31 + 8, 1<<32 + 2, 1<<32 + 8, 1<<32 + 32,
		8 - 1<<32, 2 - 1<<32, math.MinInt, math.MinInt + 8, math.MaxInt, math.MaxInt - 1, math.MaxInt32, math.MinInt32,
	}
}

// P8.1: numbers of windows at the edges, and beyond them; what is refused leaves everything as it was.
func TestNumbersOfWindows(t *testing.T) {
	for _, h := range bothHandlers() {
		for _, first := range []*asm.Asm{asm.New(), filled(t)} {
			for _, nw := range notNumbers() {
				refused(t, first, h, nw, api.ErrArg)
			}
			for _, nw := range []int{2, 3, 31, 32} {
				ok(t, h.put(first.Copy(), nw))
			}
		}
	}
}

// P8.1: the mark exists already: from a call before, or set by hand, at any position; the other one is nothing to it.
func TestMarkExists(t *testing.T) {
	for _, nw := range []int{2, 3, 8, 32} {
		for _, h := range bothHandlers() {
			a := asm.New()
			ok(t, a.Mark(h.mark))
			refused(t, a, h, nw, api.ErrState)
			ok(t, otherOf(h).put(a, nw))
			refused(t, a, h, nw, api.ErrState)
			refused(t, a, otherOf(h), nw, api.ErrState)

			b := filled(t)
			ok(t, b.Mark(otherOf(h).mark))
			ok(t, h.put(b, nw))
			for n := 2; n <= 32; n++ {
				refused(t, b, h, n, api.ErrState)
			}
			refused(t, b, otherOf(h), nw, api.ErrState)
			c := b.Copy()
			refused(t, c, h, nw, api.ErrState)
			ok(t, b.Put(api.Inst{Op: api.OpRett}))
			refused(t, b, h, nw, api.ErrState)
		}
	}
}

// P8.1, R2: a number of windows that is not valid comes before a mark that exists.
func TestOrderOfErrors(t *testing.T) {
	for _, h := range bothHandlers() {
		a := both(t, 3)
		for _, nw := range notNumbers() {
			refused(t, a, h, nw, api.ErrArg)
		}
		refused(t, a, h, 3, api.ErrState)
	}
}

// P8.1: handlers for several numbers of windows are in lists of their own; a copy has what its list had, and what is appended to one is not in the other.
func TestListsApart(t *testing.T) {
	a, b := filled(t), filled(t)
	c := a.Copy()
	ok(t, wind.Over(a, 2))
	same(t, c, b, "a copy")
	ok(t, wind.Over(c, 2))
	same(t, c, a, "a copy with the same handler")
	ok(t, wind.Under(c, 2))
	ok(t, wind.Store(c))
	ok(t, wind.Load(c))
	ok(t, wind.Over(b, 2))
	same(t, a, b, "a list")
	ok(t, wind.Under(a, 32))
	ok(t, wind.Over(asm.New(), 32))
}

// P8.2: 16 instructions, at the end of any list, any number of times; there is no mark with them.
func TestFrameInstructions(t *testing.T) {
	for i, put := range []func(*asm.Asm) api.Errno{wind.Store, wind.Load} {
		want := frameWords(t, put)
		valid(t, want)
		if len(want) != 16 {
			t.Errorf("%d: %d instructions; want 16", i, len(want))
		}
		a := filled(t)
		first := words(t, a)
		for many := 1; many <= 20; many++ {
			ok(t, put(a))
			if l := words(t, a); !slices.Equal(l, slices.Concat(first, slices.Repeat(want, many))) {
				t.Fatalf("%d: %08x", i, l)
			}
		}
		b := asm.New()
		ok(t, put(b))
		for _, name := range []string{"", "over", "under", "store", "load"} {
			ok(t, b.Mark(name))
		}
	}
}

// noLists are lists that neither New nor Copy returned.
func noLists(t *testing.T) []*asm.Asm {
	t.Helper()
	assigned, full, empty := *filled(t), *both(t, 3), *asm.New()
	return []*asm.Asm{nil, {}, new(asm.Asm), &assigned, &full, &empty}
}

// P8.1, P8.2, R1, R2: every call without a list; that error comes before all others.
func TestNoList(t *testing.T) {
	for i, a := range noLists(t) {
		is := func(what string, e api.Errno) {
			t.Helper()
			if e != api.ErrNil {
				t.Errorf("%d: %s = %d; want ErrNil", i, what, e)
			}
		}
		for range 2 {
			for _, nw := range append(notNumbers(), 2, 3, 8, 31, 32) {
				is("Over", wind.Over(a, nw))
				is("Under", wind.Under(a, nw))
			}
			is("Store", wind.Store(a))
			is("Load", wind.Load(a))
		}
	}
}

// P8.1, R5: a list that was assigned from an object changes nothing of it.
func TestAssignedApart(t *testing.T) {
	a, want := filled(t), filled(t)
	assigned := *a
	wind.Over(&assigned, 3)
	wind.Under(&assigned, 3)
	wind.Store(&assigned)
	wind.Load(&assigned)
	same(t, a, want, "a list that was assigned")
	ok(t, wind.Over(a, 3))
	ok(t, wind.Under(a, 3))
}
