package psr_test

import (
	"math"
	"slices"
	"testing"

	"muntin/api"
	"muntin/psr"
)

// wordOf is the word of a state by the places of its parts in a number: 32 values of Cwp, 16 of Pil, 32 of Bank.
func wordOf(p api.Psr) uint32 {
	return uint32(p.Cwp) + 32*(uint32(p.Pil)+16*(uint32(p.Bank)+32*uint32(p.Flags)))
}

// stateOf is the state that a word has if there is one, and whether there is.
func stateOf(w uint32, nw int) (api.Psr, bool) {
	p := api.Psr{Cwp: uint8(w % 32), Pil: uint8(w / 32 % 16), Bank: uint8(w / 512 % 32), Flags: uint8(w / 16384 % 16)}
	return p, w < 1<<18 && isState(p, nw)
}

// isState is what the chapter says of states.
func isState(p api.Psr, nw int) bool {
	return int(p.Cwp) < nw && p.Pil <= 15 && p.Bank <= 16 && p.Flags <= 15
}

// eachWindow goes through all numbers of windows, and all windows of each.
func eachWindow(f func(w, nw int)) {
	for nw := 2; nw <= 32; nw++ {
		for w := range nw {
			f(w, nw)
		}
	}
}

// noNumbers are numbers of windows that are not from 2 to 32, also some that would be if they were cut off.
func noNumbers() []int {
	return []int{1, 0, -1, -2, -8, -32, 33, 34, 64, 255, 256 + 8, 1<<16 + 8, 1<<32 + 2, 1<<32 + 8, 1<<32 + 32, -256 + 8, -1<<32 + 8, math.MinInt, math.MinInt + 8, math.MaxInt}
}

// noWindows are windows that do not exist among nw: those next to them, and those that would if they were cut off, or taken modulo nw.
func noWindows(nw int) []int {
	return []int{-1, -2, -nw, nw, nw + 1, 2 * nw, 33, 64, 256, 1 << 16, 1 << 32, 1<<32 + 1, -256, -1 << 32, -1<<32 + 1, math.MinInt, math.MaxInt}
}

func pack(t *testing.T, p api.Psr, nw int) uint32 {
	t.Helper()
	w, e := psr.Pack(p, nw)
	if e != api.OK {
		t.Fatalf("Pack(%v, %d): error %d", p, nw, e)
	}
	return w
}

func next(t *testing.T, w, nw int) int {
	t.Helper()
	n, e := psr.Next(w, nw)
	if e != api.OK {
		t.Fatalf("Next(%d, %d): error %d", w, nw, e)
	}
	return n
}

func ahead(t *testing.T, w, nw int) int {
	t.Helper()
	n, e := psr.Ahead(w, nw)
	if e != api.OK {
		t.Fatalf("Ahead(%d, %d): error %d", w, nw, e)
	}
	return n
}

func resident(t *testing.T, w int, wim uint32, nw int) []int {
	t.Helper()
	l, e := psr.Resident(w, wim, nw)
	if e != api.OK {
		t.Fatalf("Resident(%d, %x, %d): error %d", w, wim, nw, e)
	}
	return l
}

func packs(t *testing.T, p api.Psr, nw int, want uint32, errno api.Errno) {
	t.Helper()
	if w, e := psr.Pack(p, nw); w != want || e != errno {
		t.Fatalf("Pack(%v, %d) = %x, %d; want %x, %d", p, nw, w, e, want, errno)
	}
}

func unpacks(t *testing.T, w uint32, nw int, want api.Psr, errno api.Errno) {
	t.Helper()
	if p, e := psr.Unpack(w, nw); p != want || e != errno {
		t.Fatalf("Unpack(%x, %d) = %v, %d; want %v, %d", w, nw, p, e, want, errno)
	}
}

// moves is for Next and Ahead.
func moves(t *testing.T, name string, f func(w, nw int) (int, api.Errno), w, nw, want int, errno api.Errno) {
	t.Helper()
	if n, e := f(w, nw); n != want || e != errno {
		t.Fatalf("%s(%d, %d) = %d, %d; want %d, %d", name, w, nw, n, e, want, errno)
	}
}

func wims(t *testing.T, w, nw int, want uint32, errno api.Errno) {
	t.Helper()
	if wim, e := psr.Wim(w, nw); wim != want || e != errno {
		t.Fatalf("Wim(%d, %d) = %x, %d; want %x, %d", w, nw, wim, e, want, errno)
	}
}

func invalids(t *testing.T, wim uint32, nw, want int, errno api.Errno) {
	t.Helper()
	if w, e := psr.Invalid(wim, nw); w != want || e != errno {
		t.Fatalf("Invalid(%x, %d) = %d, %d; want %d, %d", wim, nw, w, e, want, errno)
	}
}

func residents(t *testing.T, w int, wim uint32, nw int, want []int) {
	t.Helper()
	if l, e := psr.Resident(w, wim, nw); !slices.Equal(l, want) || e != api.OK {
		t.Fatalf("Resident(%d, %x, %d) = %d, %d; want %d", w, wim, nw, l, e, want)
	}
}

func noneResident(t *testing.T, w int, wim uint32, nw int, errno api.Errno) {
	t.Helper()
	if l, e := psr.Resident(w, wim, nw); len(l) != 0 || e != errno {
		t.Fatalf("Resident(%d, %x, %d) = %d, %d; want none, %d", w, wim, nw, l, e, errno)
	}
}

// P4.1 to P4.3: the chapter's examples, in their order.
func TestExamples(t *testing.T) {
	p := api.Psr{Cwp: 3, Pil: 2, Bank: 16, Flags: 9}
	packs(t, p, 8, 0x26043, api.OK)
	unpacks(t, 0x26043, 8, p, api.OK)
	unpacks(t, 0x26043, 3, api.Psr{}, api.ErrForm)
	packs(t, api.Psr{Cwp: 8}, 8, 0, api.ErrArg)
	unpacks(t, 0x40000, 8, api.Psr{}, api.ErrForm)
	moves(t, "Next", psr.Next, 7, 8, 0, api.OK)
	moves(t, "Ahead", psr.Ahead, 0, 8, 7, api.OK)
	wims(t, 3, 8, 8, api.OK)
	invalids(t, 8, 8, 3, api.OK)
	invalids(t, 9, 8, 0, api.ErrForm)
	invalids(t, 0x100, 8, 0, api.ErrForm)
	residents(t, 6, 8, 8, []int{6, 7, 0, 1, 2})
	residents(t, 3, 8, 8, nil)
	residents(t, 1, 1, 2, []int{1})
}

// P4.1: where each part is in the word: its lowest bit, and its greatest value.
func TestPlacesOfParts(t *testing.T) {
	for _, x := range []struct {
		p api.Psr
		w uint32
	}{
		{api.Psr{}, 0},
		{api.Psr{Cwp: 1}, 0x1}, {api.Psr{Cwp: 31}, 0x1f},
		{api.Psr{Pil: 1}, 0x20}, {api.Psr{Pil: 15}, 0x1e0},
		{api.Psr{Bank: 1}, 0x200}, {api.Psr{Bank: 15}, 0x1e00}, {api.Psr{Bank: 16}, 0x2000},
		{api.Psr{Flags: 1}, 0x4000}, {api.Psr{Flags: 15}, 0x3c000},
		{api.Psr{Cwp: 31, Pil: 15, Bank: 16, Flags: 15}, 0x3e1ff},
	} {
		packs(t, x.p, 32, x.w, api.OK)
		unpacks(t, x.w, 32, x.p, api.OK)
	}
}

// P4.1: each part from its lowest value to far beyond its greatest one, all with all others' ends, for all numbers of windows.
func TestPackStates(t *testing.T) {
	cwps := []uint8{0, 1, 2, 3, 7, 8, 15, 16, 30, 31, 32, 33, 63, 64, 128, 255}
	pils := []uint8{0, 1, 14, 15, 16, 17, 31, 32, 128, 240, 255}
	banks := []uint8{0, 1, 15, 16, 17, 18, 31, 32, 48, 128, 255}
	flags := []uint8{0, 1, 14, 15, 16, 17, 31, 32, 128, 240, 255}
	for nw := 2; nw <= 32; nw++ {
		for _, cwp := range append(cwps, uint8(nw-1), uint8(nw), uint8(nw+1)) {
			for _, pil := range pils {
				for _, bank := range banks {
					for _, flag := range flags {
						p := api.Psr{Cwp: cwp, Pil: pil, Bank: bank, Flags: flag}
						if isState(p, nw) {
							packs(t, p, nw, wordOf(p), api.OK)
						} else {
							packs(t, p, nw, 0, api.ErrArg)
						}
					}
				}
			}
		}
	}
}

// P4.1: each part alone, through all its numbers, with the others as small, or as great, as they can be.
func TestPackParts(t *testing.T) {
	for _, nw := range []int{2, 3, 8, 31, 32} {
		for _, from := range []api.Psr{{}, {Cwp: uint8(nw - 1), Pil: 15, Bank: 16, Flags: 15}} {
			for n := range 256 {
				for part := range 4 {
					p := from
					*[]*uint8{&p.Cwp, &p.Pil, &p.Bank, &p.Flags}[part] = uint8(n)
					if isState(p, nw) {
						packs(t, p, nw, wordOf(p), api.OK)
					} else {
						packs(t, p, nw, 0, api.ErrArg)
					}
				}
			}
		}
	}
}

// P4.1, P4.4: all words that have nothing above the parts, for all numbers of windows.
func TestUnpackWords(t *testing.T) {
	for nw := 2; nw <= 32; nw++ {
		for w := range uint32(1 << 18) {
			if p, is := stateOf(w, nw); is {
				unpacks(t, w, nw, p, api.OK)
				packs(t, p, nw, w, api.OK)
			} else {
				unpacks(t, w, nw, api.Psr{}, api.ErrForm)
			}
		}
	}
}

// P4.1: each part just outside its range, the others in theirs.
func TestUnpackRefusesParts(t *testing.T) {
	for nw := 2; nw <= 32; nw++ {
		for _, p := range []api.Psr{{}, {Cwp: uint8(nw - 1), Pil: 15, Bank: 16, Flags: 15}, {Cwp: 1, Pil: 7, Bank: 3, Flags: 9}} {
			unpacks(t, wordOf(p), nw, p, api.OK)
			if nw < 32 {
				q := p
				q.Cwp = uint8(nw)
				unpacks(t, wordOf(q), nw, api.Psr{}, api.ErrForm)
			}
			q := p
			q.Bank = 17
			unpacks(t, wordOf(q), nw, api.Psr{}, api.ErrForm)
		}
	}
}

// P4.1, R6: Pil and Flags fill their bits, so what is beyond the parts is any bit above them.
func TestUnpackRefusesBitsAbove(t *testing.T) {
	for nw := 2; nw <= 32; nw++ {
		for _, p := range []api.Psr{{}, {Cwp: 1}, {Cwp: uint8(nw - 1), Pil: 15, Bank: 16, Flags: 15}} {
			for bit := 18; bit < 32; bit++ {
				unpacks(t, wordOf(p)|1<<bit, nw, api.Psr{}, api.ErrForm)
			}
			unpacks(t, wordOf(p)|0xfffc0000, nw, api.Psr{}, api.ErrForm)
		}
		unpacks(t, 0x3ffff, nw, api.Psr{}, api.ErrForm)
		unpacks(t, 0xffffffff, nw, api.Psr{}, api.ErrForm)
	}
}

// P4.2: all windows.
func TestMoves(t *testing.T) {
	eachWindow(func(w, nw int) {
		after, before := w+1, w-1
		if w == nw-1 {
			after = 0
		}
		if w == 0 {
			before = nw - 1
		}
		moves(t, "Next", psr.Next, w, nw, after, api.OK)
		moves(t, "Ahead", psr.Ahead, w, nw, before, api.OK)
	})
}

// P4.2, P4.3: all windows there and back, with the WIM as a number that is doubled.
func TestWims(t *testing.T) {
	for nw := 2; nw <= 32; nw++ {
		wim := uint32(1)
		for w := range nw {
			wims(t, w, nw, wim, api.OK)
			invalids(t, wim, nw, w, api.OK)
			wim *= 2
		}
	}
}

// P4.2, P4.3, R3: windows that do not exist.
func TestWindowsRefused(t *testing.T) {
	for nw := 2; nw <= 32; nw++ {
		for _, w := range noWindows(nw) {
			if w >= 0 && w < nw {
				t.Fatalf("the window %d is one of %d", w, nw)
			}
			moves(t, "Next", psr.Next, w, nw, 0, api.ErrArg)
			moves(t, "Ahead", psr.Ahead, w, nw, 0, api.ErrArg)
			wims(t, w, nw, 0, api.ErrArg)
			noneResident(t, w, 1, nw, api.ErrArg)
			noneResident(t, w, 2, nw, api.ErrArg)
		}
	}
}

// P4.1 to P4.3, R1, R3: numbers of windows that are not from 2 to 32, with all else valid.
func TestNumbersOfWindowsRefused(t *testing.T) {
	for _, nw := range noNumbers() {
		packs(t, api.Psr{}, nw, 0, api.ErrArg)
		packs(t, api.Psr{Pil: 15, Bank: 16, Flags: 15}, nw, 0, api.ErrArg)
		unpacks(t, 0, nw, api.Psr{}, api.ErrArg)
		unpacks(t, 0x3e1e0, nw, api.Psr{}, api.ErrArg)
		for _, w := range []int{0, 1, 7, 31, 32, 33, -1, nw, nw - 1, math.MinInt, math.MaxInt} {
			moves(t, "Next", psr.Next, w, nw, 0, api.ErrArg)
			moves(t, "Ahead", psr.Ahead, w, nw, 0, api.ErrArg)
			wims(t, w, nw, 0, api.ErrArg)
			noneResident(t, w, 1, nw, api.ErrArg)
			noneResident(t, w, 1<<31, nw, api.ErrArg)
		}
		for _, wim := range []uint32{1, 2, 1 << 7, 1 << 31} {
			invalids(t, wim, nw, 0, api.ErrArg)
		}
	}
}

// noWims are words that are no WIM of nw windows: no bit, two bits, one bit too high, more of both.
func noWims(nw int) []uint32 {
	l := []uint32{0, 0xffffffff, 0x7fffffff, 0xfffffffe, 3, 5, 7, 1<<31 | 1, 3 << 30}
	for high := range 32 {
		for low := range high {
			l = append(l, 1<<high|1<<low)
		}
	}
	for bit := nw; bit < 32; bit++ {
		l = append(l, 1<<bit, 0xffffffff<<bit)
	}
	return l
}

// P4.3: words that are no valid WIM, and windows all around.
func TestWimsRefused(t *testing.T) {
	for nw := 2; nw <= 32; nw++ {
		for _, wim := range noWims(nw) {
			invalids(t, wim, nw, 0, api.ErrForm)
			for _, w := range []int{0, 1, nw / 2, nw - 1} {
				noneResident(t, w, wim, nw, api.ErrForm)
			}
		}
	}
}

// P4.3: all words of 12 bits, for few windows.
func TestInvalidOfAllWords(t *testing.T) {
	for nw := 2; nw <= 10; nw++ {
		windows := map[uint32]int{}
		for w := range nw {
			windows[1<<w] = w
		}
		for wim := range uint32(1 << 12) {
			if w, is := windows[wim]; is {
				invalids(t, wim, nw, w, api.OK)
			} else {
				invalids(t, wim, nw, 0, api.ErrForm)
			}
		}
	}
}

// P4.1, P4.3, R2: ErrArg comes before ErrForm.
func TestOrderOfErrors(t *testing.T) {
	for _, nw := range noNumbers() {
		for _, w := range []uint32{0x40000, 0x3ffff, 0x2200, 0xffffffff, 31} {
			unpacks(t, w, nw, api.Psr{}, api.ErrArg)
		}
		packs(t, api.Psr{Cwp: 255, Pil: 255, Bank: 255, Flags: 255}, nw, 0, api.ErrArg)
		for _, wim := range []uint32{0, 3, 0xffffffff, 1 << 31} {
			invalids(t, wim, nw, 0, api.ErrArg)
			for _, w := range []int{0, -1, 33, math.MinInt, math.MaxInt} {
				noneResident(t, w, wim, nw, api.ErrArg)
			}
		}
	}
	for nw := 2; nw <= 32; nw++ {
		for _, w := range noWindows(nw) {
			for _, wim := range noWims(nw) {
				noneResident(t, w, wim, nw, api.ErrArg)
			}
		}
	}
}

// P4.3, P4.5: all windows with all invalid ones: those from w on, in a row that goes round twice, before the invalid one.
func TestResident(t *testing.T) {
	eachWindow(func(w, nw int) {
		var around []int
		for range 2 {
			for n := range nw {
				around = append(around, n)
			}
		}
		for invalid := range nw {
			row := around[w:]
			residents(t, w, 1<<invalid, nw, row[:slices.Index(row, invalid)])
		}
	})
}

// P4.3: some of the rows in full.
func TestResidentRows(t *testing.T) {
	for _, x := range []struct {
		w, invalid, nw int
		want           []int
	}{
		{0, 0, 2, nil}, {0, 1, 2, []int{0}}, {1, 0, 2, []int{1}}, {1, 1, 2, nil},
		{0, 2, 3, []int{0, 1}}, {2, 1, 3, []int{2, 0}}, {1, 0, 3, []int{1, 2}}, {2, 0, 3, []int{2}},
		{7, 0, 8, []int{7}}, {0, 7, 8, []int{0, 1, 2, 3, 4, 5, 6}}, {4, 3, 8, []int{4, 5, 6, 7, 0, 1, 2}},
		{30, 2, 32, []int{30, 31, 0, 1}}, {31, 31, 32, nil},
	} {
		residents(t, x.w, 1<<x.invalid, x.nw, x.want)
	}
}

// P4.3, R5: what Resident returned is new memory, with all its capacity, each time.
func TestResidentIndependent(t *testing.T) {
	eachWindow(func(w, nw int) {
		for invalid := range nw {
			wim := uint32(1) << invalid
			l, other := resident(t, w, wim, nw), resident(t, w, wim, nw)
			want := slices.Clone(other)
			for i := range l[:cap(l)] {
				l[:cap(l)][i] = -7
			}
			_ = append(l, -7, -7, -7, -7)
			if !slices.Equal(other, want) {
				t.Fatalf("Resident(%d, %x, %d) shares memory with an earlier one", w, wim, nw)
			}
			residents(t, w, wim, nw, want)
		}
	})
}

// P4.4: all states of some numbers of windows, there and back, each with a word of its own.
func TestThereAndBack(t *testing.T) {
	for _, nw := range []int{2, 3, 5, 8, 16, 17, 31, 32} {
		seen := map[uint32]api.Psr{}
		for i := range nw * 16 * 17 * 16 {
			p := api.Psr{Cwp: uint8(i % nw), Pil: uint8(i / nw % 16), Bank: uint8(i / nw / 16 % 17), Flags: uint8(i / nw / 16 / 17)}
			w := pack(t, p, nw)
			if other, is := seen[w]; is {
				t.Fatalf("Pack(%v, %d) and that of %v are both %x", p, nw, other, w)
			}
			seen[w] = p
			unpacks(t, w, nw, p, api.OK)
		}
		for w := range seen {
			p, e := psr.Unpack(w, nw)
			if back := pack(t, p, nw); back != w || e != api.OK {
				t.Fatalf("Pack of Unpack(%x, %d) = %x, %d", w, nw, back, e)
			}
		}
	}
}

// P4.4: Next and Ahead undo each other, and Next comes back after NW times, not before.
func TestRoundOfWindows(t *testing.T) {
	eachWindow(func(w, nw int) {
		if n := next(t, ahead(t, w, nw), nw); n != w {
			t.Fatalf("Next of Ahead of %d of %d windows is %d", w, nw, n)
		}
		if n := ahead(t, next(t, w, nw), nw); n != w {
			t.Fatalf("Ahead of Next of %d of %d windows is %d", w, nw, n)
		}
		n := w
		for many := 1; many <= nw; many++ {
			n = next(t, n, nw)
			if (n == w) != (many == nw) {
				t.Fatalf("Next, %d times, of %d of %d windows is %d", many, w, nw, n)
			}
		}
	})
}

// P4.5: what the chapter says of how many windows are resident, and which.
func TestHowManyResident(t *testing.T) {
	eachWindow(func(w, nw int) {
		for invalid := range nw {
			wim := uint32(1) << invalid
			l := resident(t, w, wim, nw)
			if len(l) > nw-1 {
				t.Fatalf("Resident(%d, %x, %d): %d windows", w, wim, nw, len(l))
			}
			if slices.Contains(l, w) != (w != invalid) {
				t.Fatalf("Resident(%d, %x, %d) = %d; is %d among them?", w, wim, nw, l, w)
			}
			if len(l) > 0 && next(t, l[len(l)-1], nw) != invalid {
				t.Fatalf("Resident(%d, %x, %d) = %d; the last is not the one before the invalid one", w, wim, nw, l)
			}
			if invalid == ahead(t, w, nw) && len(l) != nw-1 {
				t.Fatalf("Resident(%d, %x, %d) = %d; want %d windows", w, wim, nw, l, nw-1)
			}
		}
	})
}
