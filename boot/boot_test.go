package boot_test

import (
	"math"
	"reflect"
	"slices"
	"sync"
	"testing"

	"muntin/api"
	"muntin/asm"
	"muntin/boot"
	"muntin/inst"
	"muntin/swap"
	"muntin/tick"
	"muntin/wind"
)

const (
	first = 768 // where the handlers begin
	rett  = 0x80000000
)

// notNumbers are numbers of windows that there are not: just beyond the edges, such as would be valid if they were cut off, and the farthest ones.
func notNumbers() []int {
	return []int{
		1, 0, -1, -2, -8, -32, 33, 34, 62, 63, 64, 128, 256 + 2, 256 + 8, 1<<15 + 8, 1<<16 + 8, 1<<31 + 8, 1<<32 + 2, 1<<32 + 8, 1<<32 + 32,
		8 - 1<<32, 2 - 1<<32, math.MinInt, math.MinInt + 8, math.MaxInt, math.MaxInt - 1, math.MaxInt32, math.MinInt32,
	}
}

// allNumbers are all numbers of windows.
func allNumbers() []int {
	var l []int
	for nw := 2; nw <= 32; nw++ {
		l = append(l, nw)
	}
	return l
}

func ok(t *testing.T, e api.Errno) {
	t.Helper()
	if e != api.OK {
		t.Fatalf("%d; want OK", e)
	}
}

func words(t *testing.T, k *boot.Kit, nw int) []uint32 {
	t.Helper()
	l, e := k.Words(nw)
	ok(t, e)
	return l
}

func start(t *testing.T, k *boot.Kit, nw int) uint32 {
	t.Helper()
	at, e := k.Start(nw)
	ok(t, e)
	return at
}

func made(t *testing.T, k *boot.Kit, want int) {
	t.Helper()
	if n := k.Made(); n != want {
		t.Fatalf("Made = %d; want %d", n, want)
	}
}

// The chapter's examples.
func TestExamples(t *testing.T) {
	l := words(t, boot.New(), 2)
	if len(l)-first/4 > 250 || l[0] != 0 || l[64] != 0x80000000 || l[68] != 0x4400007c {
		t.Errorf("%d words from 768 on, %x, %x, %x", len(l)-first/4, l[0], l[64], l[68])
	}
	k := boot.New()
	if l, e := k.Words(1); l != nil || e != api.ErrArg {
		t.Errorf("Words(1) = %x, %d", l, e)
	}
	if at, e := k.Start(33); at != 0 || e != api.ErrArg {
		t.Errorf("Start(33) = %d, %d", at, e)
	}
	one, other := words(t, k, 2), words(t, k, 2)
	start(t, k, 3)
	if !slices.Equal(one, other) {
		t.Error("Words(2) differs from Words(2)")
	}
	made(t, k, 2)
}

// parts returns the words of all handlers, each layer's from a list of its own, one behind the other, and where those of each type are in the memory.
func parts(t *testing.T, nw int) ([]uint32, map[int]int) {
	t.Helper()
	var l []uint32
	at := map[int]int{}
	add := func(fill func(a *asm.Asm) api.Errno, marks map[int]string) {
		a := asm.New()
		ok(t, fill(a))
		for kind, mark := range marks {
			n, e := a.At(mark)
			ok(t, e)
			at[kind] = first + 4*(len(l)+n)
		}
		part, e := a.Words()
		ok(t, e)
		l = append(l, part...)
	}
	add(func(a *asm.Asm) api.Errno { return wind.Over(a, nw) }, map[int]string{1: "over"})
	add(func(a *asm.Asm) api.Errno { return wind.Under(a, nw) }, map[int]string{2: "under"})
	levels := map[int]string{}
	for level := 1; level <= 15; level++ {
		levels[16+level] = tick.Name(level)
	}
	add(tick.All, levels)
	add(func(a *asm.Asm) api.Errno { return swap.All(a, nw) }, map[int]string{3: "yield", 4: "end"})
	return l, at
}

// P11.1: what is where, for all numbers of windows: zeros, the vectors of all types, the handlers in their order, and behind them the start, to the end.
func TestLayout(t *testing.T) {
	k := boot.New()
	for nw := 2; nw <= 32; nw++ {
		l := words(t, k, nw)
		want := make([]uint32, 64)
		handlers, at := parts(t, nw)
		if len(at) != 19 {
			t.Fatalf("%d types have handlers", len(at))
		}
		for kind := range 32 {
			vector := []uint32{rett, rett, rett, rett}
			if to, is := at[kind]; is {
				vector[0] = 17<<26 | uint32(to-(256+16*kind))/4
			}
			want = append(want, vector...)
		}
		want = append(want, handlers...)
		for i, w := range want {
			if l[i] != w {
				t.Fatalf("%d windows: the word at %d is %08x; want %08x", nw, 4*i, l[i], w)
			}
		}
		if at := start(t, k, nw); int(at) != 4*len(want) || len(l) <= len(want) {
			t.Errorf("%d windows: Start = %d, of %d bytes; want %d", nw, at, 4*len(l), 4*len(want))
		}
	}
}

// P11.1: by the chapter's words, without any other layer: which types have handlers, and that jumps lead to instructions from 768 on, of which no two types have the same.
func TestVectors(t *testing.T) {
	for _, nw := range allNumbers() {
		l := words(t, boot.New(), nw)
		seen := map[int]bool{}
		for kind := range 32 {
			at := 64 + 4*kind
			has := kind >= 1 && kind <= 4 || kind >= 17
			if has != (l[at] != rett) || l[at+1] != rett || l[at+2] != rett || l[at+3] != rett {
				t.Errorf("%d windows, the type %d: %08x", nw, kind, l[at:at+4])
			}
			if !has {
				continue
			}
			x, is := inst.Decode(l[at])
			to := at + int(x.Imm)
			if !is || x.Op != api.OpBr || x.Rd != api.CoAlways || to < first/4 || to >= len(l) || seen[to] {
				t.Errorf("%d windows, the type %d: %+v", nw, kind, x)
			}
			seen[to] = true
		}
		x, _ := inst.Decode(l[64+4])
		if to := 64 + 4 + int(x.Imm); to != first/4 {
			t.Errorf("%d windows: the overflow handler is at %d", nw, 4*to)
		}
	}
}

// P11.1: the ticks' handlers stand in the memory by their words, which the chapter of layer 9 gives, in increasing order.
func TestTickWords(t *testing.T) {
	for _, nw := range []int{2, 3, 32} {
		l := words(t, boot.New(), nw)
		for level := uint32(1); level <= 15; level++ {
			x, _ := inst.Decode(l[64+4*(16+level)])
			to := 64 + 4*(16+int(level)) + int(x.Imm)
			want := []uint32{0x58208000 + 4*level, 0x04218001, 0x5c208000 + 4*level, rett}
			if !slices.Equal(l[to:to+4], want) {
				t.Errorf("%d windows, the level %d: %08x; want %08x", nw, level, l[to:to+4], want)
			}
		}
	}
}

// P11.3: at most 1800 bytes; from 256 on all words are those of instructions; the start is among them, at a multiple of 4.
func TestBytes(t *testing.T) {
	k := boot.New()
	for _, nw := range allNumbers() {
		l := words(t, k, nw)
		if 4*len(l) > 1800 || len(l)-first/4 > 250 {
			t.Errorf("%d windows: %d bytes", nw, 4*len(l))
		}
		for i, w := range l {
			if _, is := inst.Decode(w); is != (i >= 64) || i < 64 && w != 0 {
				t.Errorf("%d windows: the word at %d is %08x", nw, 4*i, w)
			}
		}
		if at := start(t, k, nw); at%4 != 0 || at < first || at >= uint32(4*len(l)) {
			t.Errorf("%d windows: Start = %d of %d bytes", nw, at, 4*len(l))
		}
	}
}

// P11.1, P11.2: numbers of windows at the edges, and beyond them; what is refused builds nothing.
func TestNumbersOfWindows(t *testing.T) {
	k := boot.New()
	for n, edge := range []int{2, 3, 31, 32} {
		for _, nw := range notNumbers() {
			if l, e := k.Words(nw); l != nil || e != api.ErrArg {
				t.Errorf("Words(%d) = %x, %d", nw, l, e)
			}
			if at, e := k.Start(nw); at != 0 || e != api.ErrArg {
				t.Errorf("Start(%d) = %d, %d", nw, at, e)
			}
		}
		made(t, k, n)
		words(t, k, edge)
		made(t, k, n+1)
	}
}

// noKits are kits that New did not return.
func noKits() []*boot.Kit {
	full := boot.New()
	full.Words(2)
	full.Start(32)
	l := []*boot.Kit{nil, {}, new(boot.Kit)}
	for _, k := range []*boot.Kit{boot.New(), full} {
		// A kit can't be assigned in the text, as it has a lock.
		assigned := reflect.New(reflect.TypeFor[boot.Kit]())
		assigned.Elem().Set(reflect.ValueOf(k).Elem())
		l = append(l, assigned.Interface().(*boot.Kit))
	}
	return l
}

// P11.1, P11.2, R1, R2: without a kit; that error comes before all others.
func TestNoKit(t *testing.T) {
	for i, k := range noKits() {
		for range 2 {
			for _, nw := range append(notNumbers(), allNumbers()...) {
				if l, e := k.Words(nw); l != nil || e != api.ErrNil {
					t.Errorf("%d: Words(%d) = %x, %d; want ErrNil", i, nw, l, e)
				}
				if at, e := k.Start(nw); at != 0 || e != api.ErrNil {
					t.Errorf("%d: Start(%d) = %d, %d; want ErrNil", i, nw, at, e)
				}
				made(t, k, 0)
			}
		}
	}
}

// P11.2: each number of windows counts once, whichever of the calls comes first, and how often they are called.
func TestMade(t *testing.T) {
	for _, begin := range []func(k *boot.Kit, nw int) api.Errno{
		func(k *boot.Kit, nw int) api.Errno { _, e := k.Words(nw); return e },
		func(k *boot.Kit, nw int) api.Errno { _, e := k.Start(nw); return e },
	} {
		k, other := boot.New(), boot.New()
		made(t, k, 0)
		for n, nw := range allNumbers() {
			ok(t, begin(k, nw))
			made(t, k, n+1)
			for range 3 {
				words(t, k, nw)
				start(t, k, nw)
				words(t, k, 2)
				start(t, k, 2)
			}
			made(t, k, n+1)
		}
		for _, nw := range allNumbers() {
			words(t, k, nw)
			start(t, k, nw)
		}
		made(t, k, 31)
		made(t, other, 0)
		made(t, boot.New(), 0)
		start(t, other, 9)
		made(t, other, 1)
		made(t, k, 31)
	}
}

// P11.3: whichever runtimes were built before, in whichever order, and by whichever kit.
func TestAlwaysTheSame(t *testing.T) {
	want, at := map[int][]uint32{}, map[int]uint32{}
	for _, nw := range allNumbers() {
		k := boot.New()
		want[nw], at[nw] = words(t, k, nw), start(t, k, nw)
	}
	down := allNumbers()
	slices.Reverse(down)
	for _, order := range [][]int{allNumbers(), down, {8, 2, 32, 8, 3, 2, 31, 17, 16, 32, 8}} {
		one, other := boot.New(), boot.New()
		for i, nw := range order {
			// Words comes first in one kit, Start in the other.
			l, s := words(t, one, nw), start(t, one, nw)
			s2, l2 := start(t, other, nw), words(t, other, nw)
			if !slices.Equal(l, want[nw]) || !slices.Equal(l2, want[nw]) || s != at[nw] || s2 != at[nw] {
				t.Errorf("%d windows differ, behind %v", nw, order[:i])
			}
		}
		for _, nw := range order {
			if l := words(t, one, nw); !slices.Equal(l, want[nw]) || start(t, other, nw) != at[nw] {
				t.Errorf("%d windows differ, behind %v", nw, order)
			}
		}
	}
}

// P11.3: runtimes for different numbers of windows are not each other's.
func TestDifferent(t *testing.T) {
	k := boot.New()
	seen := map[string]int{}
	for _, nw := range allNumbers() {
		var b []byte
		for _, w := range words(t, k, nw) {
			b = append(b, byte(w>>24), byte(w>>16), byte(w>>8), byte(w))
		}
		if other, is := seen[string(b)]; is {
			t.Errorf("%d windows have the runtime of %d", nw, other)
		}
		seen[string(b)] = nw
	}
}

// R5: what is returned is new memory, its spare capacity too.
func TestNewMemory(t *testing.T) {
	k := boot.New()
	want := words(t, boot.New(), 5)
	for range 3 {
		l, other := words(t, k, 5), words(t, k, 5)
		l = l[:cap(l)]
		for i := range l {
			l[i] = 0xdeadbeef
		}
		after := words(t, k, 5)
		if !slices.Equal(other, want) || !slices.Equal(after, want) {
			t.Fatal("the words of a runtime changed")
		}
		if slices.Contains(other[:cap(other)], 0xdeadbeef) || slices.Contains(after[:cap(after)], 0xdeadbeef) {
			t.Fatal("the spare capacity is shared")
		}
	}
	made(t, k, 1)
}

// P11.2, P11.3: many that call at the same time: each runtime is built once, and nobody has one that is not whole.
func TestAtTheSameTime(t *testing.T) {
	plain := boot.New()
	for range 20 {
		k := boot.New()
		var all sync.WaitGroup
		for worker := range 8 {
			all.Go(func() {
				for i := range 31 {
					nw := 2 + (i*7+worker)%31
					at, e := k.Start(nw)
					l, f := k.Words(nw)
					want, _ := plain.Words(nw)
					if e != api.OK || f != api.OK || !slices.Equal(l, want) || at == 0 || k.Made() < 1 {
						t.Errorf("%d windows: %d, %d, %d", nw, e, f, at)
					}
				}
			})
		}
		all.Wait()
		made(t, k, 31)
	}
	made(t, plain, 31)
}
