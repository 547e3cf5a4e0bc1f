package swap_test

import (
	"fmt"
	"math/rand"
	"slices"
	"testing"

	"muntin/api"
	"muntin/asm"
	"muntin/mach"
	"muntin/swap"
	"muntin/tick"
	"muntin/wind"
)

const (
	deepest    = 48     // frames of a thread
	codes      = 0x1000 // of the threads, one behind the other
	codeBytes  = 0x400  // of each
	stacks     = codes + 4*codeBytes
	stackBytes = 64 * (deepest + 1) // of each
)

// call is a window of a thread: its own registers, and its o6.
type call struct {
	own []uint32
	sp  uint32
}

// thread is what is to be known of a thread when it goes on: its PC, and its windows, the innermost one last.
type thread struct {
	pc    uint32
	calls []call
	alive bool
}

// play is a machine with threads, which execute one instruction at a time. What their windows must be is recorded beside.
type play struct {
	m       *mach.Machine
	threads []thread
	running int
	level   func() uint8 // of each step
	many    int
}

// runtime returns a list with all handlers.
func runtime(t *testing.T, nw int) *asm.Asm {
	t.Helper()
	a := asm.New()
	ok(t, wind.Over(a, nw))
	ok(t, wind.Under(a, nw))
	ok(t, tick.All(a))
	ok(t, swap.All(a, nw))
	return a
}

// lay makes all vectors lead to a runtime's handlers.
func lay(t *testing.T, m *mach.Machine, a *asm.Asm) {
	t.Helper()
	vector(t, m, a, 1, "over")
	vector(t, m, a, 2, "under")
	for level := 1; level <= 15; level++ {
		vector(t, m, a, 16+level, tick.Name(level))
	}
}

// begin returns a play of so many threads, of which the first one runs in a window.
func begin(t *testing.T, nw, many, window int) *play {
	t.Helper()
	a := runtime(t, nw)
	p := &play{m: machine(t, nw, a, stacks+4*stackBytes), level: func() uint8 { return 0 }}
	lay(t, p.m, a)
	for n := range many {
		pc, sp := uint32(codes+codeBytes*n), uint32(stacks+stackBytes*(n+1)-64)
		setThread(t, p.m, uint32(n), pc, sp, uint32(stacks+stackBytes*n), 1)
		frame, e := p.m.Mem().Words(sp, 16)
		ok(t, e)
		p.threads = append(p.threads, thread{pc: pc, calls: []call{{own: frame, sp: sp}}, alive: true})
	}
	setRunning(t, p.m, 0, uint32(many))
	ok(t, p.m.Mem().Store(limit, 4, stacks))
	ok(t, p.m.SetPsr(api.Psr{Cwp: uint8(window), Flags: 9}))
	ok(t, p.m.SetWim(1<<((window+1)%nw)))
	ok(t, p.m.SetPC(codes))
	ok(t, p.m.File().Put(window, p.now().calls[0].own))
	setSP(t, p.m, window, p.top().sp)
	return p
}

func (p *play) now() *thread { return &p.threads[p.running] }

func (p *play) top() *call { return &p.now().calls[len(p.now().calls)-1] }

func (p *play) cwp() int { return int(p.m.Psr().Cwp) }

// execute has the running thread execute an instruction, with all handlers that come of it. The running thread's PC is the next one then, wherever the machine is.
func (p *play) execute(t *testing.T, x api.Inst) {
	t.Helper()
	th := p.now()
	if th.pc+4 == uint32(codes+codeBytes*(p.running+1)) {
		th.pc = uint32(codes + codeBytes*p.running)
		ok(t, p.m.SetPC(th.pc))
	}
	ok(t, p.m.Mem().Store(th.pc, 4, word(t, x)))
	// A machine that runs on behind it stops at a word that is no instruction's.
	ok(t, p.m.Mem().Store(th.pc+4, 4, 0))
	from := th.pc
	th.pc += 4
	for many := 0; many == 0 || p.m.Psr().Bank != 0 || p.m.PC() == from; many++ {
		if s := p.m.Step(p.level()); s.Kind != api.StRun || many > 5000 {
			t.Fatalf("%s: after %d steps at the PC %d, state %v: stop %v", p.what(), many, p.m.PC(), p.m.Psr(), s)
		}
	}
	p.many++
}

func (p *play) what() string {
	return fmt.Sprintf("%d windows, thread %d of %d, %d instructions done", p.m.File().NW(), p.running, len(p.threads), p.many)
}

// check compares the machine with what is recorded of the running thread.
func (p *play) check(t *testing.T) {
	t.Helper()
	own, e := p.m.File().Window(p.cwp())
	ok(t, e)
	sp, e := p.m.File().Get(p.cwp(), 0, o6)
	ok(t, e)
	if !slices.Equal(own, p.top().own) || sp != p.top().sp {
		t.Fatalf("%s: the window %d is %x, o6 %x; want %x, %x", p.what(), p.cwp(), own, sp, p.top().own, p.top().sp)
	}
	if p.m.PC() != p.now().pc || p.m.Psr() != (api.Psr{Cwp: uint8(p.cwp()), Flags: 9}) {
		t.Fatalf("%s: PC %d, state %v; want %d", p.what(), p.m.PC(), p.m.Psr(), p.now().pc)
	}
	l, e := p.m.Mem().Words(current, 3)
	ok(t, e)
	if want := uint32(stacks + stackBytes*p.running); int(l[0]) != p.running || l[2] != want {
		t.Fatalf("%s: thread %d, limit %x; want %x", p.what(), l[0], l[2], want)
	}
}

// change sets registers of the current window to numbers of their own, but for i6 and o6.
func (p *play) change(t *testing.T, n uint32) {
	t.Helper()
	for reg := 8; reg < 32; reg++ {
		if reg != o6 && reg != i6 {
			ok(t, p.m.File().Set(p.cwp(), 0, reg, n<<8|uint32(reg)))
		}
	}
	p.record(t)
}

func (p *play) record(t *testing.T) {
	t.Helper()
	own, e := p.m.File().Window(p.cwp())
	ok(t, e)
	p.top().own = own
}

func (p *play) save(t *testing.T) {
	t.Helper()
	sp := p.top().sp
	p.execute(t, api.Inst{Op: api.OpSave, Rd: o6, Rs1: o6, Is: true, Imm: -64})
	p.now().calls = append(p.now().calls, call{sp: sp - 64})
	p.record(t)
	p.check(t)
	if got := p.top().own[14]; got != sp {
		t.Fatalf("%s: i6 is %x; want %x", p.what(), got, sp)
	}
}

func (p *play) restore(t *testing.T) {
	t.Helper()
	p.execute(t, api.Inst{Op: api.OpRestore})
	p.now().calls = p.now().calls[:len(p.now().calls)-1]
	p.check(t)
}

// yield has the running thread yield, and end has it end.
func (p *play) yield(t *testing.T, choice uint32) {
	t.Helper()
	p.trap(t, 3, choice)
}

func (p *play) end(t *testing.T, choice uint32) {
	t.Helper()
	p.now().alive = false
	p.trap(t, 4, choice)
}

// trap checks, too, that exactly one window is resident then.
func (p *play) trap(t *testing.T, kind int32, choice uint32) {
	t.Helper()
	window := p.cwp()
	ok(t, p.m.Choose([]uint32{choice}))
	p.execute(t, api.Inst{Op: api.OpTrap, Is: true, Imm: kind})
	l := p.alive()
	p.running = l[uint64(choice)%uint64(len(l))]
	p.check(t)
	if p.cwp() != window || p.m.Wim() != 1<<((window+1)%p.m.File().NW()) {
		t.Fatalf("%s: WIM %x, state %v", p.what(), p.m.Wim(), p.m.Psr())
	}
}

func (p *play) alive() []int {
	var l []int
	for n, th := range p.threads {
		if th.alive {
			l = append(l, n)
		}
	}
	return l
}

// choose has the running thread yield to one that is alive.
func (p *play) choose(t *testing.T, thread int) {
	t.Helper()
	p.yield(t, uint32(slices.Index(p.alive(), thread)))
}

// deeper has the running thread execute OpSaves, each window with numbers of its own.
func (p *play) deeper(t *testing.T, many int) {
	t.Helper()
	for range many {
		p.save(t)
		p.change(t, uint32(p.many))
	}
}

// out has the running thread execute an OpRestore for each of its windows but the first one.
func (p *play) out(t *testing.T) {
	t.Helper()
	for len(p.now().calls) > 1 {
		p.restore(t)
	}
}

// P10.3: a thread that is alone, and chosen again at once, at each depth, from each window.
func TestChosenAtOnce(t *testing.T) {
	for _, nw := range []int{2, 3, 4, 8, 32} {
		for window := range nw {
			for _, deep := range []int{0, 1, 2, nw - 2, nw - 1, nw, nw + 1} {
				p := begin(t, nw, 1, window)
				p.deeper(t, deep)
				p.yield(t, uint32(deep))
				p.yield(t, 0)
				p.out(t)
			}
		}
	}
}

// P10.3: at each depth, after one other thread, or three, which take as many windows or more, and change all registers there are but i6 and o6.
func TestChosenAfterOthers(t *testing.T) {
	for _, nw := range []int{2, 3, 4, 8, 32} {
		for many := 2; many <= 4; many++ {
			for _, deep := range []int{0, 1, 2, nw - 2, nw - 1, nw, nw + 1} {
				for _, otherDeep := range []int{0, 1, nw - 1, nw + 2} {
					p := begin(t, nw, many, deep%nw)
					p.deeper(t, deep)
					for other := 1; other < many; other++ {
						p.choose(t, other)
						p.change(t, 0xdead)
						p.deeper(t, otherDeep)
					}
					p.choose(t, 0)
					p.out(t)
					p.choose(t, many-1)
					p.out(t)
				}
			}
		}
	}
}

// P10.3: a thread that goes on after others have ended, up to the one that is left.
func TestChosenAfterEnds(t *testing.T) {
	for _, nw := range []int{2, 3, 8, 32} {
		p := begin(t, nw, 4, 1)
		p.deeper(t, nw+6)
		for other := 1; other < 4; other++ {
			p.choose(t, other)
			p.deeper(t, other*2)
			p.choose(t, 0)
			p.restore(t)
		}
		for _, other := range []int{2, 1, 3} {
			p.choose(t, other)
			p.end(t, 0)
			p.yield(t, 7*uint32(len(p.alive())))
			p.restore(t)
		}
		p.yield(t, 99)
		p.out(t)
	}
}

// walk has the threads do a great many things, in no order.
func walk(t *testing.T, p *play, r *rand.Rand, many int) {
	t.Helper()
	for range many {
		deep := len(p.now().calls)
		switch n := r.Intn(100); {
		case n < 35 && deep < deepest:
			p.deeper(t, 1+r.Intn(2)*min(3, deepest-deep-1))
		case n < 65 && deep > 1:
			p.restore(t)
		case n < 75:
			p.change(t, r.Uint32())
		case n == 99 && p.running > 0 && r.Intn(4) == 0:
			p.end(t, r.Uint32())
		default:
			p.yield(t, r.Uint32())
		}
	}
	for _, n := range p.alive() {
		p.choose(t, n)
		p.out(t)
	}
}

// P10.2, P10.3: threads that call, return, change registers, yield and end, in no order: all windows are as they were left.
func TestWalks(t *testing.T) {
	for seed := range int64(40) {
		r := rand.New(rand.NewSource(seed))
		nw := []int{2, 3, 4, 5, 8, 13, 31, 32}[seed%8]
		walk(t, begin(t, nw, 1+r.Intn(4), r.Intn(nw)), r, 600)
	}
}

// P10.2, P10.3, P4: the same with interrupts of any levels, before any instructions, also of handlers.
func TestWalksInterrupted(t *testing.T) {
	for seed := range int64(24) {
		r := rand.New(rand.NewSource(seed))
		nw := []int{2, 3, 4, 5, 8, 13, 31, 32}[seed%8]
		p := begin(t, nw, 1+r.Intn(4), r.Intn(nw))
		p.level = func() uint8 {
			if r.Intn(8) > 0 {
				return 0
			}
			return uint8(r.Intn(16))
		}
		walk(t, p, r, 400)
	}
}

// P10.2, P4: an interrupt before each of the handlers' steps, and another one in that one's handler; or one before each of them all.
func TestInterrupted(t *testing.T) {
	for _, nw := range []int{2, 3, 8} {
		a := runtime(t, nw)
		base := machine(t, nw, a, size)
		lay(t, base, a)
		for _, kind := range []int{3, 4} {
			for at := range most(nw) {
				m := base.Copy()
				about(t, m, kind, at%nw, (at+nw-1)%nw)
				ok(t, m.SetPsr(api.Psr{Cwp: uint8(at % nw), Pil: 2, Flags: 9}))
				ok(t, m.Choose([]uint32{uint32(at)}))
				want := expected(t, m, kind, uint32(at))
				interrupted(t, m, at)
				got := look(t, m)
				for _, level := range []uint32{3, 15} {
					got.globals[level], got.saved[level] = want.globals[level], want.saved[level]
					*got.word(4 * level) = *want.word(4 * level)
				}
				got.is(t, want, fmt.Sprintf("OpTrap %d of %d windows, interrupted before the step %d", kind, nw, at))
			}
		}
	}
}

// interrupted has the machine trap, and its handler run to its end.
func interrupted(t *testing.T, m *mach.Machine, at int) {
	t.Helper()
	for many := 0; many == 0 || m.Psr().Bank != 0 || m.PC() == code; many++ {
		level := uint8(0)
		switch {
		case at == 0 && many%7 == 1, at > 0 && many == at:
			level = 3
		case at > 0 && many == at+2:
			level = 15
		}
		if s := m.Step(level); s.Kind != api.StRun || many > 8*most(m.File().NW()) {
			t.Fatalf("after %d steps at the PC %d: stop %v", many, m.PC(), s)
		}
	}
}
