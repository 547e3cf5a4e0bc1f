package tick_test

import (
	"testing"

	"muntin/api"
	"muntin/mach"
)

// pair is a machine that is interrupted, beside one that is not. Its interrupts are counted as they are taken.
type pair struct {
	m, free *mach.Machine
	many    [16]uint32
	saved   [16][2]uint32
	open    []entered
}

// entered is an interrupt whose handler has not returned yet: the machine before it, the interrupts that were taken until then, and the steps of its handler.
type entered struct {
	was   *world
	many  [16]uint32
	steps int
}

func twins(m *mach.Machine) *pair { return &pair{m: m.Copy(), free: m.Copy()} }

// step has the machine do a step with a level. What must come of it is told by Pil: an interrupt, a step of a handler, or one that the other machine does, too.
func (p *pair) step(t *testing.T, level uint8) {
	t.Helper()
	switch {
	case p.m.Stop().Kind == api.StRun && level <= 15 && level > p.m.Psr().Pil:
		p.enter(t, level)
	case len(p.open) > 0:
		p.m.Step(level)
		p.handle(t)
	default:
		p.m.Step(level)
		p.free.Step(0)
	}
}

func (p *pair) enter(t *testing.T, level uint8) {
	t.Helper()
	was := look(t, p.m)
	p.open = append(p.open, entered{was: was, many: p.many})
	p.many[level]++
	p.saved[level] = [2]uint32{was.pc, state(was.psr)}
	p.m.Step(level)
	want := api.Psr{Cwp: was.psr.Cwp, Pil: level, Bank: level, Flags: was.psr.Flags}
	if p.m.PC() != uint32(vectorOf(int(level))) || p.m.Psr() != want {
		t.Fatalf("no interrupt of the level %d: PC %d, state %v", level, p.m.PC(), p.m.Psr())
	}
}

// handle counts a step of a handler. After its last one the machine must be as before the interrupt, but for what was taken since then.
func (p *pair) handle(t *testing.T) {
	t.Helper()
	last := &p.open[len(p.open)-1]
	last.steps++
	if last.steps < handlerSteps {
		return
	}
	p.open = p.open[:len(p.open)-1]
	look(t, p.m).is(t, p.ticked(last.was, last.many), "after a handler")
}

// ticked returns a world with what was taken since the interrupts were so many.
func (p *pair) ticked(w *world, since [16]uint32) *world {
	for level := range 16 {
		if n := p.many[level] - since[level]; n > 0 {
			w.memory[level] += n
			w.globals[level][1] = w.memory[level]
			w.saved[level] = p.saved[level]
		}
	}
	return w
}

// back has all handlers return, without interrupts.
func (p *pair) back(t *testing.T) {
	t.Helper()
	for len(p.open) > 0 {
		p.step(t, 0)
	}
}

// same compares both machines.
func (p *pair) same(t *testing.T, what string) {
	t.Helper()
	p.back(t)
	look(t, p.m).is(t, p.ticked(look(t, p.free), [16]uint32{}), what)
}

// taken tells whether so many interrupts of each level were taken, and no others, by the words of their ticks too.
func (p *pair) taken(t *testing.T, want map[int]int, what string) {
	t.Helper()
	for level := range 16 {
		before, e := p.free.Mem().Load(uint32(4*level), 4)
		ok(t, e)
		after, e := p.m.Mem().Load(uint32(4*level), 4)
		ok(t, e)
		if n := uint32(want[level]); p.many[level] != n || after-before != n {
			t.Fatalf("%s: %d interrupts of the level %d, ticks from %x to %x; want %d", what, p.many[level], level, before, after, n)
		}
	}
}
