package boot_test

import (
	"fmt"
	"iter"
	"math/rand"
	"slices"
	"testing"

	"muntin/api"
	"muntin/asm"
	"muntin/boot"
	"muntin/mach"
)

const (
	deepest    = 40     // frames of a thread
	codes      = 0x1000 // of the threads, one behind the other
	codeBytes  = 0x400  // of each
	stacks     = codes + 4*codeBytes
	stackBytes = 64 * (deepest + 1) // of each
	left       = stacks + 4*stackBytes
)

// booted returns a machine with so many threads, of which the first one has been started in a window. All others are as a program's image has them.
func booted(t *testing.T, nw, many, window int, pcs func(thread int) uint32) *mach.Machine {
	t.Helper()
	k := boot.New()
	m := various(t, nw, left+64, words(t, k, nw))
	for n := range many {
		top := uint32(stacks + stackBytes*(n+1))
		setThread(t, m, uint32(n), pcs(n), top-64, top-stackBytes, 1)
	}
	ok(t, m.Mem().Put(current, []uint32{0, uint32(many)}))
	ok(t, m.SetPC(start(t, k, nw)))
	ok(t, m.SetPsr(api.Psr{Cwp: uint8(window), Flags: 9}))
	ok(t, m.SetWim(1<<((window+1)%nw)))
	starts(t, m, quiet, "a start")
	return m
}

// walk has threads execute a great many instructions, in no order, now mostly calls and now mostly returns, and compares the machine after each of them. It returns how many of each Op led to a handler.
func walk(t *testing.T, r *rand.Rand, nw, many int, level func() uint8) map[uint8]int {
	t.Helper()
	codeOf := func(n int) uint32 { return uint32(codes + codeBytes*n) }
	m := booted(t, nw, many, r.Intn(nw), codeOf)
	deep, alive, trapped := make([]int, many), many, map[uint8]int{}
	for n := range 320 {
		running, e := m.Mem().Load(current, 4)
		ok(t, e)
		if m.PC() >= codeOf(int(running))+codeBytes-8 {
			ok(t, m.SetPC(codeOf(int(running))))
		}
		calls := 60
		if n/80%2 == 1 {
			calls = 10
		}
		x := api.Inst{Op: api.OpTrap, Is: true, Imm: 3}
		switch p := r.Intn(100); {
		case p < calls && deep[running] < deepest-1:
			x = api.Inst{Op: api.OpSave, Rd: o6, Rs1: o6, Is: true, Imm: -64}
			deep[running]++
		case p < 70 && deep[running] > 0:
			x = api.Inst{Op: api.OpRestore, Rd: 8, Rs1: 24, Rs2: 17}
			deep[running]--
		case p < 98:
			rd := []uint8{1, 7, 8, 13, 15, 16, 20, 23, 24, 29, 31}[r.Intn(11)]
			x = api.Inst{Op: api.OpAlu + api.AlAdd, Rd: rd, Rs1: uint8(r.Intn(32)), Is: true, Imm: int32(r.Intn(1 << 14))}
		case p == 99 && alive > 1 && r.Intn(4) == 0:
			x.Imm = 4
			alive--
		}
		ok(t, m.Mem().Store(m.PC(), 4, word(t, x)))
		what := fmt.Sprintf("%d windows, the instruction %d, %+v of thread %d", nw, n, x, running)
		if steps := does(t, m, x, r.Uint32(), func(int) uint8 { return level() }, what); steps > 1 {
			trapped[x.Op]++
		}
	}
	return trapped
}

// P11.4: threads that call, return, change registers, yield and end, in no order.
func TestWalks(t *testing.T) {
	many := map[uint8]int{}
	for seed := range int64(31) {
		r := rand.New(rand.NewSource(seed))
		for op, n := range walk(t, r, int(seed)+2, 1+r.Intn(4), func() uint8 { return 0 }) {
			many[op] += n
		}
	}
	if many[api.OpSave] < 100 || many[api.OpRestore] < 100 || many[api.OpTrap] < 100 {
		t.Errorf("too few traps: %d", many)
	}
}

// P11.4: the same with interrupts of any levels, before any steps.
func TestWalksInterrupted(t *testing.T) {
	for seed := range int64(31) {
		r := rand.New(rand.NewSource(seed + 100))
		walk(t, r, int(seed)+2, 1+r.Intn(4), func() uint8 {
			if r.Intn(10) > 0 {
				return 0
			}
			return uint8(r.Intn(20))
		})
	}
}

// part is what a thread of a program does: it adds up the numbers from its depth down to 0, one call for each, and prints them on the way down and the sums on the way up. It yields behind what has no bit of the mask.
type part struct{ depth, mask int }

// program returns what threads execute. The last one that comes to its end halts with its sum.
func program(t *testing.T, parts []part) *asm.Asm {
	t.Helper()
	a := asm.New()
	for n, p := range parts {
		ok(t, a.Mark(fmt.Sprint("thread", n)))
		ok(t, a.Const(8, uint32(p.depth)))
		ok(t, a.Const(9, uint32(1000*n)))
		ok(t, a.Const(10, uint32(p.mask)))
		ok(t, a.Jump(api.CoAlways, "thread"))
	}
	ok(t, a.Mark("thread"))
	ok(t, a.Call("sum"))
	ok(t, a.Const(16, left))
	ok(t, a.Put(
		api.Inst{Op: api.OpOut, Rs1: 8},
		api.Inst{Op: api.OpLd, Rd: 17, Rs1: 16, Is: true},
		api.Inst{Op: api.OpAlu + api.AlSub, Rd: 17, Rs1: 17, Is: true, Imm: 1},
		api.Inst{Op: api.OpSt, Rd: 17, Rs1: 16, Is: true},
		api.Inst{Op: api.OpCmp, Rs1: 17, Is: true},
	))
	ok(t, a.Jump(api.CoEq, "halt"))
	ok(t, a.Put(api.Inst{Op: api.OpTrap, Is: true, Imm: 4}))
	ok(t, a.Mark("halt"))
	ok(t, a.Put(api.Inst{Op: api.OpHalt, Rs1: 8}))
	sum(t, a)
	return a
}

// sum appends a function of a number, of what is added to all that it prints, and of a mask.
func sum(t *testing.T, a *asm.Asm) {
	t.Helper()
	show := func(mark string) {
		ok(t, a.Put(
			api.Inst{Op: api.OpAlu + api.AlAdd, Rd: 16, Rs1: 24, Rs2: 25},
			api.Inst{Op: api.OpOut, Rs1: 16},
			api.Inst{Op: api.OpAlu + api.AlAnd, Rd: 16, Rs1: 24, Rs2: 26},
			api.Inst{Op: api.OpCmp, Rs1: 16, Is: true},
		))
		ok(t, a.Jump(api.CoNe, mark))
		ok(t, a.Put(api.Inst{Op: api.OpTrap, Is: true, Imm: 3}))
		ok(t, a.Mark(mark))
	}
	ok(t, a.Mark("sum"))
	ok(t, a.Put(api.Inst{Op: api.OpSave, Rd: o6, Rs1: o6, Is: true, Imm: -64}))
	show("down")
	ok(t, a.Put(api.Inst{Op: api.OpCmp, Rs1: 24, Is: true}))
	ok(t, a.Jump(api.CoEq, "back"))
	ok(t, a.Put(
		api.Inst{Op: api.OpAlu + api.AlSub, Rd: 8, Rs1: 24, Is: true, Imm: 1},
		api.Inst{Op: api.OpAlu + api.AlAdd, Rd: 9, Rs1: 25, Is: true},
		api.Inst{Op: api.OpAlu + api.AlAdd, Rd: 10, Rs1: 26, Is: true},
	))
	ok(t, a.Call("sum"))
	ok(t, a.Put(api.Inst{Op: api.OpAlu + api.AlAdd, Rd: 24, Rs1: 24, Rs2: 8}))
	show("up")
	ok(t, a.Mark("back"))
	ok(t, a.Put(
		api.Inst{Op: api.OpRestore, Rd: 8, Rs1: 24, Is: true},
		api.Inst{Op: api.OpJmpl, Rs1: 15, Is: true, Imm: 4},
	))
}

// meant is what such a program prints under choices, and what it halts with.
func meant(parts []part, choices []uint32) (out []uint32, halt uint32) {
	var next []func() (int, bool)
	for n, p := range parts {
		pull, stop := iter.Pull(func(yield func(int) bool) {
			var down func(i int) int
			show := func(i int) {
				out = append(out, uint32(1000*n+i))
				if i&p.mask == 0 {
					yield(n)
				}
			}
			down = func(i int) int {
				show(i)
				if i == 0 {
					return 0
				}
				i += down(i - 1)
				show(i)
				return i
			}
			halt = uint32(down(p.depth))
			out = append(out, halt)
		})
		defer stop()
		next = append(next, pull)
	}
	for running := 0; ; {
		if _, more := next[running](); !more {
			next = slices.Delete(next, running, running+1)
		}
		if len(next) == 0 {
			return out, halt
		}
		running = int(choices[0] % uint32(len(next)))
		choices = choices[1:]
	}
}

// P11.4, P4: programs of one to four threads, to their end, from the start on: they print and halt as they must, with interrupts of any levels, and without.
func TestPrograms(t *testing.T) {
	for seed := range int64(124) {
		r := rand.New(rand.NewSource(seed))
		nw, many := int(seed)%31+2, int(seed)/31+1
		var parts []part
		for range many {
			parts = append(parts, part{depth: r.Intn(deepest - 2), mask: []int{0, 1, 6, 12, 63, 1023}[r.Intn(6)]})
		}
		choices := make([]uint32, 4*2*deepest)
		for i := range choices {
			choices[i] = r.Uint32()
		}
		out, halt := meant(parts, choices)
		a := program(t, parts)
		m := booted(t, nw, many, r.Intn(nw), func(n int) uint32 {
			at, e := a.At(fmt.Sprint("thread", n))
			ok(t, e)
			return uint32(codes + 4*at)
		})
		l, e := a.Words()
		ok(t, e)
		ok(t, m.Mem().Put(codes, l))
		ok(t, m.Mem().Store(left, 4, uint32(many)))
		ok(t, m.Choose(choices))
		for _, often := range []int{0, 9} {
			runs(t, m.Copy(), r, often, out, halt, fmt.Sprintf("%d windows, %+v", nw, parts))
		}
	}
}

// runs has a machine do steps until it halts, so many of 50 of them with a level.
func runs(t *testing.T, m *mach.Machine, r *rand.Rand, often int, out []uint32, halt uint32, what string) {
	t.Helper()
	before := look(t, m).memory[:16]
	g := &rig{m: m}
	for n := 0; m.Stop().Kind == api.StRun; n++ {
		level := uint8(0)
		if r.Intn(50) < often {
			level = uint8(r.Intn(16))
		}
		if g.step(t, level); n > 1e6 {
			t.Fatalf("%s: no end: PC %d, state %v", what, m.PC(), m.Psr())
		}
	}
	if l := m.Out(); !slices.Equal(l, out) || m.Stop() != (api.Stop{Kind: api.StHalt, V: halt}) {
		t.Fatalf("%s: output %d, stop %v; want %d, %d", what, l, m.Stop(), out, halt)
	}
	for level := 1; level <= 15; level++ {
		if n, _ := m.Mem().Load(uint32(4*level), 4); n != before[level]+g.many[level] {
			t.Fatalf("%s: the ticks of the level %d are %x, from %x; want %d more", what, level, n, before[level], g.many[level])
		}
	}
}
