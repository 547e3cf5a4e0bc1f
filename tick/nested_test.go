package tick_test

import (
	"fmt"
	"testing"

	"muntin/api"
)

// P9.3: before every step of a handler, and behind it, an interrupt of every level: a higher one is taken, and no other one until the handler has returned.
func TestNestedOnce(t *testing.T) {
	base := ready(t, 3)
	ok(t, base.SetPsr(api.Psr{Cwp: 2, Flags: 5}))
	ok(t, base.Mem().Store(code, 4, word(t, api.Inst{Op: api.OpOut, Rs1: o6})))
	for outer := 1; outer <= 15; outer++ {
		for at := range handlerSteps + 1 {
			for inner := range 16 {
				what := fmt.Sprintf("the level %d in that of %d, before the step %d", inner, outer, at)
				p := twins(base)
				p.step(t, uint8(outer))
				for range at {
					p.step(t, 0)
				}
				p.step(t, uint8(inner))
				p.same(t, what)
				want := map[int]int{outer: 1}
				if inner > outer || at == handlerSteps && inner > 0 {
					want[inner]++
				}
				p.taken(t, want, what)
			}
		}
	}
}

// P9.3: the same level before every step: its own handler is not interrupted, and then it is taken again.
func TestSameLevel(t *testing.T) {
	base := ready(t, 2)
	for level := 1; level <= 15; level++ {
		p := twins(base)
		for range 10 * (1 + handlerSteps) {
			p.step(t, uint8(level))
		}
		p.same(t, fmt.Sprintf("level %d", level))
		p.taken(t, map[int]int{level: 10}, fmt.Sprintf("level %d", level))
	}
}

// P9.3: all levels, each in the handler of the one below it, before each of its steps.
func TestDeep(t *testing.T) {
	for _, nw := range []int{2, 3, 32} {
		base := ready(t, nw)
		for at := range handlerSteps {
			for by := 1; by <= 7; by++ {
				p := twins(base)
				want := map[int]int{}
				for level := 1; level <= 15; level += by {
					p.step(t, uint8(level))
					for range at {
						p.step(t, uint8(level))
					}
					want[level] = 1
				}
				if len(p.open) != len(want) {
					t.Fatalf("%d handlers have not returned; want %d", len(p.open), len(want))
				}
				what := fmt.Sprintf("before the step %d, each %d levels above, %d windows", at, by, nw)
				p.same(t, what)
				p.taken(t, want, what)
			}
		}
	}
}

// P9.3: an interrupt of a higher level before each step of a handler: six of them, with the one behind it.
func TestBetweenAllSteps(t *testing.T) {
	base := ready(t, 3)
	for outer := 1; outer <= 14; outer++ {
		for inner := outer + 1; inner <= 15; inner++ {
			p := twins(base)
			p.step(t, uint8(outer))
			for range handlerSteps {
				p.step(t, uint8(inner))
				for range handlerSteps {
					p.step(t, uint8(outer))
				}
				p.step(t, uint8(outer))
			}
			p.step(t, uint8(inner))
			what := fmt.Sprintf("the level %d in all of that of %d", inner, outer)
			p.same(t, what)
			p.taken(t, map[int]int{outer: 1, inner: handlerSteps + 1}, what)
		}
	}
}

// P9.3: several interrupts one after the other, of levels in any order, before one instruction.
func TestOneAfterTheOther(t *testing.T) {
	for _, levels := range [][]int{
		{1, 1}, {15, 15, 15}, {1, 15}, {15, 1}, {3, 5, 3, 5}, {1, 2, 3, 4, 5, 6, 7, 8, 9, 10, 11, 12, 13, 14, 15},
		{15, 14, 13, 12, 11, 10, 9, 8, 7, 6, 5, 4, 3, 2, 1}, {8, 4, 12, 2, 14, 1, 15, 8, 4, 12, 2, 14, 1, 15},
	} {
		p := twins(ready(t, 4))
		want := map[int]int{}
		for _, level := range levels {
			p.step(t, uint8(level))
			p.back(t)
			want[level]++
		}
		p.same(t, fmt.Sprint(levels))
		p.taken(t, want, fmt.Sprint(levels))
	}
}

// P9.3: as many interrupts as make ticks begin anew from 0.
func TestTicksBeginAnew(t *testing.T) {
	base := ready(t, 2)
	for level := 1; level <= 15; level++ {
		ok(t, base.Mem().Store(uint32(4*level), 4, -uint32(level)))
	}
	for level := 1; level <= 15; level++ {
		p := twins(base)
		for range level + 2 {
			p.step(t, uint8(level))
			p.back(t)
		}
		p.same(t, fmt.Sprintf("level %d", level))
		if n, e := p.m.Mem().Load(uint32(4*level), 4); n != 2 || e != api.OK {
			t.Errorf("level %d: the ticks are %x, %d; want 2", level, n, e)
		}
	}
}
