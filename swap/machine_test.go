package swap_test

import (
	"fmt"
	"slices"
	"testing"

	"muntin/api"
	"muntin/asm"
	"muntin/mach"
	"muntin/swap"
)

// The chapter's examples: two threads, both alive; thread 0 runs, in the window 1 of 3, the window 0 is invalid.
func TestExamples(t *testing.T) {
	base := ready(t, 3)
	setRunning(t, base, 0, 2)

	m := base.Copy()
	about(t, m, 3, 1, 0)
	ok(t, m.Choose([]uint32{5}))
	own, frame := [3][]uint32{}, [3]uint32{}
	for window := range 3 {
		own[window], _ = m.File().Window(window)
		frame[window], _ = m.File().Get(window, 0, o6)
	}
	before, _ := m.Mem().Words(frame[0], 16)
	other, _ := m.Mem().Words(others+64, 16)
	handled(t, m, 3)
	for window, want := range [][]uint32{before, own[1], own[2]} {
		if l, _ := m.Mem().Words(frame[window], 16); !slices.Equal(l, want) {
			t.Errorf("the frame of the window %d: %x; want %x", window, l, want)
		}
	}
	if l, _ := m.Mem().Words(blocks, 3); !slices.Equal(l, []uint32{code + 4, frame[1], 0x7000}) {
		t.Errorf("the block of thread 0: %x", l)
	}
	isRunning(t, m, 1)
	if l, _ := m.File().Window(1); !slices.Equal(l, other) || m.Wim() != 1<<2 {
		t.Errorf("the window 1: %x, WIM %x; want %x, 4", l, m.Wim(), other)
	}

	m = base.Copy()
	about(t, m, 4, 1, 0)
	handled(t, m, 4)
	if l, _ := m.Mem().Words(blocks, 4); !slices.Equal(l, []uint32{code + 0x100, others, 0x7000, 0}) {
		t.Errorf("the block of thread 0: %x", l)
	}
	for window := range 3 {
		if l, _ := m.Mem().Words(frame[window], 16); window > 0 && slices.Equal(l, own[window]) {
			t.Errorf("the window %d was stored", window)
		}
	}
	isRunning(t, m, 1)
}

// isRunning tells whether one of the machine's threads runs, in its window, with its limit.
func isRunning(t *testing.T, m *mach.Machine, thread uint32) {
	t.Helper()
	sp, _ := m.File().Get(int(m.Psr().Cwp), 0, o6)
	l, _ := m.Mem().Words(current, 3)
	if l[0] != thread || l[2] != 0x7000+thread || sp != others+64*thread || m.PC() != code+0x100*(thread+1) || m.Psr().Bank != 0 {
		t.Errorf("%x, SP %d, PC %d, state %v; want thread %d", l, sp, m.PC(), m.Psr(), thread)
	}
}

// allNumbers are all numbers of windows, and someNumbers those at the edges, and a few between them.
func allNumbers() []int {
	var l []int
	for nw := 2; nw <= 32; nw++ {
		l = append(l, nw)
	}
	return l
}

func someNumbers() []int { return []int{2, 3, 4, 5, 8, 15, 31, 32} }

// eachWindow calls f with a machine, for numbers of windows, all of their windows, and all that are invalid, the current one too. Which threads there are, which run and which are alive, and the choice, is now this and now that.
func eachWindow(t *testing.T, numbers []int, kind int, f func(m *mach.Machine, window, invalid int, choice uint32)) {
	t.Helper()
	n := 0
	for _, nw := range numbers {
		base := ready(t, nw)
		for window := range nw {
			for invalid := range nw {
				m := base.Copy()
				n++
				many := n%4 + 1
				thread := n / 4 % many
				set := n/16%16 | 1<<thread
				if kind == 4 {
					set |= 1 << ((thread + 1) % many)
				}
				if kind == 4 && many == 1 {
					many, set = 2, 3
				}
				setRunning(t, m, uint32(thread), uint32(many))
				setAlive(t, m, set)
				about(t, m, kind, window, invalid)
				f(m, window, invalid, uint32(n)*0x9e3779b1)
			}
		}
	}
}

// P10.2: OpTrap 3, all numbers of windows, all current windows, all that are invalid: everything that a machine has, against the model.
func TestYieldAllWindows(t *testing.T) {
	eachWindow(t, allNumbers(), 3, func(m *mach.Machine, window, invalid int, choice uint32) {
		traps(t, m, 3, choice, fmt.Sprintf("the window %d of %d, %d invalid, the choice %x", window, m.File().NW(), invalid, choice))
	})
}

// P10.2: the same for OpTrap 4.
func TestEndAllWindows(t *testing.T) {
	eachWindow(t, allNumbers(), 4, func(m *mach.Machine, window, invalid int, choice uint32) {
		traps(t, m, 4, choice, fmt.Sprintf("the window %d of %d, %d invalid, the choice %x", window, m.File().NW(), invalid, choice))
	})
}

// P10.2: which windows are stored, and where each of their words is, without the model: l0 to l7, then i0 to i7, from o6 on; the frames of all others are as they were.
func TestStoredWords(t *testing.T) {
	eachWindow(t, someNumbers(), 3, func(m *mach.Machine, window, invalid int, choice uint32) {
		nw := m.File().NW()
		frame, want := make([]uint32, nw), make([][]uint32, nw)
		for n := range nw {
			frame[n], _ = m.File().Get(n, 0, o6)
			want[n], _ = m.Mem().Words(frame[n], 16)
		}
		for n := window; n != invalid; n = (n + 1) % nw {
			want[n], _ = m.File().Window(n)
		}
		ok(t, m.Choose([]uint32{choice}))
		handled(t, m, 3)
		for n := range nw {
			for i, w := range want[n] {
				if got, e := m.Mem().Load(frame[n]+uint32(4*i), 4); got != w || e != api.OK {
					t.Fatalf("from the window %d of %d, %d invalid: the word %d of the window %d is %x; want %x", window, nw, invalid, i, n, got, w)
				}
			}
		}
	})
}

// P10.2: OpTrap 4 stores no frame: of the memory only three words can change.
func TestEndStoresNothing(t *testing.T) {
	eachWindow(t, someNumbers(), 4, func(m *mach.Machine, window, invalid int, choice uint32) {
		want := look(t, m)
		running := *want.word(current)
		ok(t, m.Choose([]uint32{choice}))
		handled(t, m, 4)
		got := look(t, m)
		for _, at := range []uint32{current, limit, block(running) + 12} {
			*want.word(at) = *got.word(at)
		}
		if !slices.Equal(got.memory, want.memory) || *got.word(block(running) + 12) != 0 {
			t.Fatalf("from the window %d of %d, %d invalid: the memory changed", window, m.File().NW(), invalid)
		}
	})
}

// P10.2: what is loaded, and from where, without the model; after it the next window is the only one that is invalid.
func TestLoadedWords(t *testing.T) {
	for _, kind := range []int{3, 4} {
		eachWindow(t, someNumbers(), kind, func(m *mach.Machine, window, invalid int, choice uint32) {
			nw := m.File().NW()
			setRunning(t, m, 0, 2)
			setAlive(t, m, 2)
			for i := range 16 {
				ok(t, m.Mem().Store(uint32(others+64+4*i), 4, uint32(0x5000+i)))
			}
			ok(t, m.Choose([]uint32{choice}))
			handled(t, m, kind)
			for i := range 16 {
				if got, e := m.File().Get(window, 0, l0+i); got != uint32(0x5000+i) || e != api.OK {
					t.Fatalf("the window %d of %d: the register %d is %x; want %x", window, nw, l0+i, got, 0x5000+i)
				}
			}
			if want := uint32(1) << ((window + 1) % nw); m.Wim() != want || int(m.Psr().Cwp) != window {
				t.Fatalf("the window %d of %d: WIM %x, state %v; want %x", window, nw, m.Wim(), m.Psr(), want)
			}
			isRunning(t, m, 1)
		})
	}
}

// choices are words of which the remainders differ if they are read as signed, or cut off.
func choices() []uint32 {
	return []uint32{
		0, 1, 2, 3, 4, 5, 6, 7, 8, 9, 10, 11, 12, 13, 99, 0xff, 0x100, 0x101, 0xffff, 0x10000, 0x10001, 0x10002,
		0x7ffffffe, 0x7fffffff, 0x80000000, 0x80000001, 0x80000002, 0x80000003, 0xaaaaaaaa, 0xaaaaaaab, 0xfffffffc, 0xfffffffd, 0xfffffffe, 0xffffffff,
	}
}

// P10.2: 1 to 4 threads, every running one, every set of those alive, the running one dead, or alone, and every choice.
func TestThreads(t *testing.T) {
	for _, nw := range []int{2, 5} {
		base := ready(t, nw)
		for n := range 4 * 4 * 16 * 2 {
			many, thread, set, kind := uint32(n%4+1), uint32(n/4%4), n/16%16, 3+n/256
			alive := set & (1<<many - 1)
			if kind == 4 {
				alive &^= 1 << thread
			}
			if thread >= many || alive == 0 {
				continue
			}
			for i, choice := range choices() {
				m := base.Copy()
				setRunning(t, m, thread, many)
				setAlive(t, m, set)
				about(t, m, kind, i%nw, (i+n)%nw)
				traps(t, m, kind, choice, fmt.Sprintf("OpTrap %d, thread %d of %d, alive %b, the choice %x", kind, thread, many, set, choice))
			}
		}
	}
}

// P10.2: which thread goes on, without the model.
func TestChosen(t *testing.T) {
	for _, x := range []struct {
		kind, set    int
		thread, many uint32
		choice, want uint32
	}{
		{3, 0xf, 0, 4, 0, 0}, {3, 0xf, 0, 4, 1, 1}, {3, 0xf, 0, 4, 6, 2}, {3, 0xf, 3, 4, 0xffffffff, 3},
		{3, 0xf, 1, 3, 0xffffffff, 0}, {3, 0xf, 1, 3, 0x80000000, 2}, {3, 0xf, 1, 3, 0x10001, 2}, {3, 0xf, 2, 3, 5, 2},
		{3, 0xd, 0, 4, 1, 2}, {3, 0xa, 1, 4, 0, 1}, {3, 0xa, 1, 4, 1, 3}, {3, 0xa, 1, 4, 0x7fffffff, 3}, {3, 0xe, 0, 4, 0x80000000, 3},
		{3, 1, 0, 1, 77, 0}, {3, 0xf, 0, 1, 77, 0}, {3, 4, 2, 4, 3, 2}, {3, 2, 0, 2, 0xfffffffe, 1},
		{4, 3, 0, 2, 0, 1}, {4, 3, 1, 2, 1, 0}, {4, 0xf, 2, 4, 2, 3}, {4, 0xf, 2, 4, 0xffffffff, 0}, {4, 0xf, 0, 3, 3, 2}, {4, 9, 3, 4, 5, 0}, {4, 2, 0, 4, 5, 1},
	} {
		m := ready(t, 3)
		setRunning(t, m, x.thread, x.many)
		setAlive(t, m, x.set)
		// A thread that is chosen again goes on where it was, and not where its block says.
		about(t, m, x.kind, 0, 0)
		ok(t, m.Choose([]uint32{x.choice}))
		handled(t, m, x.kind)
		if got, _ := m.Mem().Load(current, 4); got != x.want {
			t.Errorf("%+v: thread %d", x, got)
		}
		if got, _ := m.Mem().Load(limit, 4); got != 0x7000+x.want {
			t.Errorf("%+v: limit %x", x, got)
		}
		if x.want != x.thread {
			isRunning(t, m, x.want)
		}
	}
}

// P10.2: one choice is taken, also if only one thread is alive; if there is none, it is 0.
func TestOneChoice(t *testing.T) {
	for _, kind := range []int{3, 4} {
		for _, set := range []int{2, 3, 0xf} {
			base := ready(t, 3)
			setAlive(t, base, set)
			for thread := range uint32(4) {
				ok(t, base.Mem().Store(block(thread), 4, code+4))
			}
			ok(t, base.Mem().Put(code+4, []uint32{word(t, api.Inst{Op: api.OpChoice, Rd: 16}), word(t, api.Inst{Op: api.OpOut, Rs1: 16})}))
			for _, l := range [][]uint32{{7, 0x1234, 0x5678}, {9}, nil} {
				m := base.Copy()
				about(t, m, kind, 2, 0)
				first, second := uint32(0), uint32(0)
				if len(l) > 0 {
					first = l[0]
				}
				if len(l) > 1 {
					second = l[1]
				}
				want := expected(t, m, kind, first)
				ok(t, m.Choose(l))
				handled(t, m, kind)
				look(t, m).is(t, want, fmt.Sprintf("OpTrap %d, the choices %x", kind, l))
				step(t, m)
				step(t, m)
				if out := m.Out(); !slices.Equal(out, []uint32{second}) {
					t.Errorf("OpTrap %d: after the choices %x comes %x", kind, l, out)
				}
			}
		}
	}
}

// If no thread is alive, nothing is promised. The machine stops then; it does not go on with one that is dead, and stores nothing of another one.
func TestNoneLeft(t *testing.T) {
	for _, nw := range []int{2, 3, 32} {
		for many := uint32(1); many <= 4; many++ {
			for _, kind := range []int{3, 4} {
				m := ready(t, nw)
				setRunning(t, m, many-1, many)
				setAlive(t, m, 1<<(many-1)*(kind-3)|0xf<<many&0xf)
				about(t, m, kind, 1, 0)
				before := look(t, m)
				for many := 0; m.Step(0).Kind == api.StRun; many++ {
					if many > most(nw) {
						t.Fatalf("%d windows: the machine does not stop: PC %d", nw, m.PC())
					}
				}
				after := look(t, m)
				if after.stop != (api.Stop{Kind: api.StFault, V: api.FaDiv}) {
					t.Errorf("%d windows: stop %v", nw, after.stop)
				}
				if *after.word(current) != many-1 || *after.word(block(many-1) + 12) != 0 || after.windows != before.windows || after.wim != before.wim {
					t.Errorf("%d windows, %d threads: the machine goes on", nw, many)
				}
			}
		}
	}
}

// P10.2: all flags and all levels of Pil are as they were.
func TestStates(t *testing.T) {
	for _, nw := range []int{2, 3, 32} {
		base := ready(t, nw)
		for n := range 256 {
			for _, kind := range []int{3, 4} {
				m := base.Copy()
				about(t, m, kind, nw-1, (nw-1)*(n%2))
				ok(t, m.SetPsr(api.Psr{Cwp: uint8(nw - 1), Pil: uint8(n / 16), Flags: uint8(n % 16)}))
				traps(t, m, kind, uint32(n), fmt.Sprintf("Pil %d and the flags %d, of %d windows", n/16, n%16, nw))
			}
		}
	}
}

// P10.2: whatever the globals of the bank 16 are, its TPC and its TPSR, and those of other banks.
func TestGlobals(t *testing.T) {
	for _, nw := range []int{2, 3, 32} {
		base := ready(t, nw)
		for _, n := range []uint32{0, 1, 31, 32, 0x7fffffff, 0x80000000, 0xffffffff} {
			for _, kind := range []int{3, 4} {
				m := base.Copy()
				for bank := range 17 {
					for i := range 8 {
						ok(t, m.File().Set(0, bank, i, n))
					}
				}
				about(t, m, kind, 0, nw-1)
				traps(t, m, kind, 2, fmt.Sprintf("globals %x, of %d windows", n, nw))
			}
		}
	}
}

// P10.2: PC, SP and limit that are any words, of both threads; of the one that goes on the SP must be that of a frame.
func TestBlocks(t *testing.T) {
	for _, n := range []uint32{0, 1, 4, 0x7fffffff, 0x80000000, 0xfffffffc, 0xffffffff} {
		for _, kind := range []int{3, 4} {
			for thread := range uint32(4) {
				m := ready(t, 3)
				for other := range uint32(4) {
					setThread(t, m, other, n, others+64*other, n, 1)
				}
				setThread(t, m, thread, ^n, n, ^n, 1)
				setRunning(t, m, thread, 4)
				ok(t, m.Mem().Store(limit, 4, n/2))
				about(t, m, kind, 2, 1)
				traps(t, m, kind, thread+1, fmt.Sprintf("OpTrap %d, thread %d, words %x", kind, thread, n))
			}
		}
	}
}

// P10.2: a trap at any PC; the running thread's is the one behind it.
func TestPlacesOfTraps(t *testing.T) {
	for _, pc := range []uint32{code, code + 4, handlers - 4, size - 8, size - 4} {
		for _, kind := range []int{3, 4} {
			m := ready(t, 3)
			about(t, m, kind, 0, 2)
			ok(t, m.Mem().Store(pc, 4, word(t, api.Inst{Op: api.OpTrap, Is: true, Imm: int32(kind)})))
			ok(t, m.SetPC(pc))
			traps(t, m, kind, 3, fmt.Sprintf("OpTrap %d at %d", kind, pc))
		}
	}
}

// P10.2: the handlers work in a copy, and behind other instructions.
func TestHandlersAnywhere(t *testing.T) {
	for _, nw := range []int{2, 3, 8, 32} {
		behind := filled(t)
		ok(t, behind.Put(slices.Repeat([]api.Inst{{Op: api.OpFault, Is: true, Imm: 3}}, 70)...))
		ok(t, swap.All(behind, nw))
		ok(t, behind.Put(api.Inst{Op: api.OpFault, Is: true, Imm: 3}))
		for i, a := range []*asm.Asm{behind, behind.Copy(), both(t, nw).Copy()} {
			base := machine(t, nw, a, size)
			for window := range nw {
				for _, kind := range []int{3, 4} {
					m := base.Copy()
					about(t, m, kind, window, (window+nw-1)%nw)
					traps(t, m, kind, uint32(window), fmt.Sprintf("the list %d, OpTrap %d in the window %d of %d", i, kind, window, nw))
				}
			}
		}
	}
}

// P10.2: frames at both edges of the memory, and at multiples of 4 that are not multiples of 64: those that are stored, and the one that is loaded; no word beside them is touched.
func TestPlacesOfFrames(t *testing.T) {
	for _, nw := range []int{2, 3, 8, 32} {
		for _, bytes := range []int{size, size + 4, 1 << 13} {
			base := machine(t, nw, both(t, nw), bytes)
			places := []uint32{0, 136, 140, 144, 148, 240, frames, frames + 4, frames + 8, frames + 60, uint32(bytes - 64), uint32(bytes - 68), uint32(bytes - 72)}
			// A frame can also be loaded from the blocks themselves, and from the words behind them, as they are by then.
			for _, at := range append([]uint32{blocks, blocks + 12, 100, current, threads}, places...) {
				for _, kind := range []int{3, 4} {
					m := base.Copy()
					setThread(t, m, 1, code, at, 5, 1)
					about(t, m, kind, 1, 0)
					traps(t, m, kind, 1, fmt.Sprintf("OpTrap %d, a frame to load at %d of %d bytes, %d windows", kind, at, bytes, nw))
				}
			}
			for _, at := range places {
				for window := range nw {
					m := base.Copy()
					about(t, m, 3, 1, 0)
					setSP(t, m, window, at)
					traps(t, m, 3, 1, fmt.Sprintf("the frame of the window %d at %d of %d bytes, %d windows", window, at, bytes, nw))
				}
			}
		}
	}
}

// P10.2: the greatest memory, with frames in its last bytes.
func TestGreatestMemory(t *testing.T) {
	for _, nw := range []int{2, 32} {
		m := machine(t, nw, both(t, nw), api.MaxMem)
		about(t, m, 3, 0, nw-1)
		setSP(t, m, 0, api.MaxMem-64)
		setThread(t, m, 1, code, api.MaxMem-128, 5, 1)
		traps(t, m, 3, 1, fmt.Sprintf("%d windows", nw))
	}
}

// P10.2: frames are stored in order, so that of two that overlap the later one's words are there; and a frame that is loaded is as those that were stored have left it.
func TestOverlapping(t *testing.T) {
	for _, nw := range []int{2, 3, 4, 8, 32} {
		base := machine(t, nw, both(t, nw), 1<<13)
		for window := range nw {
			for _, apart := range []int{0, 4, 8, 32, 60, -4, -60} {
				m := base.Copy()
				for n := range nw {
					setSP(t, m, (window+n)%nw, uint32(1<<12+n*apart))
				}
				setThread(t, m, 1, code, 1<<12+8, 5, 1)
				about(t, m, 3, window, (window+nw-1)%nw)
				traps(t, m, 3, 1, fmt.Sprintf("frames %d apart, from the window %d of %d", apart, window, nw))
			}
		}
	}
}

// P10.2: the steps are done one after the other: what a frame stores is what the blocks are then, and a frame that is loaded has what was stored before.
func TestFramesAtBlocks(t *testing.T) {
	for _, nw := range []int{2, 3, 8} {
		for running := range uint32(4) {
			m := ready(t, nw)
			about(t, m, 3, 1, 0)
			setSP(t, m, 1, blocks)
			for thread := range uint32(4) {
				// The limit of thread 3 is where i6 is, and so it is the SP of the next window.
				l := []uint32{code + 0x40*thread, frames + 64*thread, frames + 64*(thread+8), thread & 1}
				for i, w := range l {
					ok(t, m.File().Set(1, 0, l0+int(4*thread)+i, w))
				}
			}
			setRunning(t, m, running, 4)
			traps(t, m, 3, 1, fmt.Sprintf("the frame of %d windows over the blocks, thread %d", nw, running))

			m = ready(t, nw)
			about(t, m, 3, 1, 0)
			setRunning(t, m, 0, 4)
			setThread(t, m, running, code, blocks+16, 5, 1)
			traps(t, m, 3, running, fmt.Sprintf("a frame of %d windows loaded from the blocks, thread %d", nw, running))
		}
	}
}

// P10.2: many traps, one after the other, without anything between them.
func TestManyTraps(t *testing.T) {
	for _, nw := range []int{2, 3, 7, 32} {
		m := ready(t, nw)
		about(t, m, 3, nw-1, nw-2)
		for thread := range uint32(4) {
			ok(t, m.Mem().Store(block(thread), 4, code))
		}
		// A thread that was not chosen before begins at code, and each trap goes on behind itself.
		ok(t, m.Mem().Put(code, slices.Repeat([]uint32{word(t, api.Inst{Op: api.OpTrap, Is: true, Imm: 3})}, 40)))
		for n := range 40 {
			traps(t, m, 3, uint32(n)*0x9e3779b1>>5, fmt.Sprintf("the trap %d of %d windows", n, nw))
		}
		for n := range 3 {
			ok(t, m.Mem().Store(m.PC(), 4, word(t, api.Inst{Op: api.OpTrap, Is: true, Imm: 4})))
			traps(t, m, 4, uint32(n), fmt.Sprintf("the end %d of %d windows", n, nw))
		}
	}
}
