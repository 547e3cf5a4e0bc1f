package file_test

import (
	"math"
	"slices"
	"testing"

	"muntin/api"
	"muntin/file"
)

// name is what Get and Set call a register by.
type name struct{ window, bank, reg int }

// The kinds of registers themselves, however they are called: there are no outs among them.
const (
	global = iota
	local
	in
)

// register is a register itself: its kind, the number of its bank or window, and its number there.
type register struct{ kind, of, n int }

// meant is the register that a name denotes, by the chapter's words.
func meant(nw int, x name) register {
	switch {
	case x.reg < 8:
		return register{global, x.bank, x.reg}
	case x.reg < 16 && x.window == 0:
		return register{in, nw - 1, x.reg - 8}
	case x.reg < 16:
		return register{in, x.window - 1, x.reg - 8}
	case x.reg < 24:
		return register{local, x.window, x.reg - 16}
	}
	return register{in, x.window, x.reg - 24}
}

// names returns all names of a file with nw windows.
func names(nw int) []name {
	l := make([]name, 0, nw*17*32)
	for window := range nw {
		for bank := range 17 {
			for reg := range 32 {
				l = append(l, name{window, bank, reg})
			}
		}
	}
	return l
}

// model is what a file must hold; as a value it is copied whole.
type model struct {
	nw int
	at [3][32][8]uint32
}

func newModel(nw int) *model { return &model{nw: nw} }

func (m *model) copy() *model {
	c := *m
	return &c
}

func (m *model) get(x name) uint32 {
	r := meant(m.nw, x)
	return m.at[r.kind][r.of][r.n]
}

func (m *model) set(x name, w uint32) {
	if r := meant(m.nw, x); r.kind != global || r.n != 0 {
		m.at[r.kind][r.of][r.n] = w
	}
}

func (m *model) put(window int, l []uint32) {
	for n := range 8 {
		m.at[local][window][n], m.at[in][window][n] = l[n], l[8+n]
	}
}

func (m *model) window(window int) []uint32 {
	return slices.Concat(m.at[local][window][:], m.at[in][window][:])
}

func made(t *testing.T, nw int) *file.File {
	t.Helper()
	f, e := file.New(nw)
	if f == nil || e != api.OK {
		t.Fatalf("New(%d) = %v, %d; want a file", nw, f, e)
	}
	return f
}

// filled returns a file whose registers, but the g0s, all have words of their own, and its model.
func filled(t *testing.T, nw int) (*file.File, *model) {
	t.Helper()
	f, m := made(t, nw), newModel(nw)
	for i, x := range names(nw) {
		w := 0x80000000 + uint32(i)
		set(t, f, x, w)
		m.set(x, w)
	}
	return f, m
}

func get(t *testing.T, f *file.File, x name) uint32 {
	t.Helper()
	w, e := f.Get(x.window, x.bank, x.reg)
	if e != api.OK {
		t.Fatalf("Get%v: error %d", x, e)
	}
	return w
}

func set(t *testing.T, f *file.File, x name, w uint32) {
	t.Helper()
	if e := f.Set(x.window, x.bank, x.reg, w); e != api.OK {
		t.Fatalf("Set%v: error %d", x, e)
	}
}

func window(t *testing.T, f *file.File, n int) []uint32 {
	t.Helper()
	l, e := f.Window(n)
	if len(l) != 16 || e != api.OK {
		t.Fatalf("Window(%d) = %x, %d; want 16 words", n, l, e)
	}
	return l
}

func put(t *testing.T, f *file.File, n int, l []uint32) {
	t.Helper()
	if e := f.Put(n, l); e != api.OK {
		t.Fatalf("Put(%d): error %d", n, e)
	}
}

// words returns n words that differ from each other, from first on.
func words(first uint32, n int) []uint32 {
	l := make([]uint32, n)
	for i := range l {
		l[i] = first + uint32(i)
	}
	return l
}

// holds compares every register of f, by all its names, with the model.
func holds(t *testing.T, f *file.File, m *model) {
	t.Helper()
	for n := range m.nw {
		for bank := range 17 {
			for reg := range 32 {
				x := name{n, bank, reg}
				if w, e := f.Get(n, bank, reg); w != m.get(x) || e != api.OK {
					t.Fatalf("Get%v = %x, %d; want %x", x, w, e, m.get(x))
				}
			}
		}
		if l, e := f.Window(n); !slices.Equal(l, m.window(n)) || e != api.OK {
			t.Fatalf("Window(%d) = %x, %d; want %x", n, l, e, m.window(n))
		}
	}
	if f.NW() != m.nw {
		t.Fatalf("NW() = %d; want %d", f.NW(), m.nw)
	}
}

// P3.1: the chapter's examples, in their order, on one file.
func TestExamples(t *testing.T) {
	const g0, g1, o0, o1, i0, i1 = 0, 1, 8, 9, 24, 25
	f := made(t, 3)
	want := func(x name, want uint32) {
		t.Helper()
		if w := get(t, f, x); w != want {
			t.Errorf("Get%v = %d; want %d", x, w, want)
		}
	}
	set(t, f, name{1, 0, o0}, 7)
	want(name{0, 5, i0}, 7)
	want(name{2, 0, i0}, 0)
	set(t, f, name{0, 0, o1}, 9)
	want(name{2, 0, i1}, 9)
	set(t, f, name{0, 4, g1}, 3)
	want(name{2, 4, g1}, 3)
	want(name{0, 5, g1}, 0)
	set(t, f, name{0, 0, g0}, 5)
	want(name{0, 0, g0}, 0)
	for _, x := range []name{{3, 0, 1}, {0, 17, 1}, {0, 0, 32}} {
		if w, e := f.Get(x.window, x.bank, x.reg); w != 0 || e != api.ErrArg {
			t.Errorf("Get%v = %d, %d; want 0, ErrArg", x, w, e)
		}
	}
}

// P3.1, P3.3: from 2 to 32 windows, all registers 0 at first.
func TestNewFiles(t *testing.T) {
	for nw := 2; nw <= 32; nw++ {
		holds(t, made(t, nw), newModel(nw))
	}
}

// P3.1, R1, R3: also numbers that would be valid ones if they were cut off.
func TestNumbersOfWindowsRefused(t *testing.T) {
	for _, nw := range []int{1, 0, -1, -2, -32, 33, 34, 64, 256 + 2, 1<<16 + 2, 1<<32 + 2, 1<<32 + 32, -256 + 2, -1<<32 + 2, math.MinInt, math.MaxInt} {
		if f, e := file.New(nw); f != nil || e != api.ErrArg {
			t.Errorf("New(%d) = %v, %d; want nil, ErrArg", nw, f, e)
		}
	}
}

// P3.1, R4: files know nothing of each other.
func TestFilesApart(t *testing.T) {
	f, m := filled(t, 3)
	holds(t, made(t, 3), newModel(3))
	holds(t, f, m)
}

// beyond returns numbers that are not from 0 to end - 1: those next to them, and those that would be if they were cut off.
func beyond(end int) []int {
	return []int{-1, -2, -end, end, end + 1, 2 * end, 64, 256, 1 << 16, 1 << 32, 1<<32 + 1, -256, -1 << 32, -1<<32 + 1, math.MinInt, math.MaxInt}
}

// P3.1: a window, a bank and a register must exist, also where the register does not hang on the window, or on the bank; and what is refused changes nothing.
func TestNamesRefused(t *testing.T) {
	for _, nw := range []int{2, 3, 8, 31, 32} {
		f, m := filled(t, nw)
		refused := func(x name) {
			t.Helper()
			if w, e := f.Get(x.window, x.bank, x.reg); w != 0 || e != api.ErrArg {
				t.Errorf("%d windows: Get%v = %x, %d; want 0, ErrArg", nw, x, w, e)
			}
			if e := f.Set(x.window, x.bank, x.reg, 7); e != api.ErrArg {
				t.Errorf("%d windows: Set%v = %d; want ErrArg", nw, x, e)
			}
		}
		for _, reg := range []int{0, 1, 7, 8, 15, 16, 23, 24, 31} {
			for _, n := range beyond(nw) {
				refused(name{n, 0, reg})
				refused(name{n, 16, reg})
			}
			for _, n := range beyond(17) {
				refused(name{0, n, reg})
				refused(name{nw - 1, n, reg})
			}
		}
		for _, n := range beyond(32) {
			refused(name{0, 0, n})
			refused(name{nw - 1, 16, n})
		}
		refused(name{nw, 17, 32})
		refused(name{-1, -1, -1})
		holds(t, f, m)
	}
}

// P3.1: the first and the last of each kind exist. (That all between them do, other tests go through.)
func TestEndsOfNames(t *testing.T) {
	for nw := 2; nw <= 32; nw++ {
		f := made(t, nw)
		for _, x := range []name{{0, 0, 1}, {nw - 1, 0, 31}, {0, 16, 7}, {nw - 1, 16, 1}, {0, 0, 8}, {nw - 1, 16, 8}, {0, 16, 31}, {nw - 1, 16, 16}} {
			set(t, f, x, 5)
			if w := get(t, f, x); w != 5 {
				t.Errorf("%d windows: %v was set to 5, and is %d", nw, x, w)
			}
		}
	}
}

// P3.1: every word can be kept.
func TestWordsKept(t *testing.T) {
	f := made(t, 2)
	for _, x := range []name{{0, 3, 1}, {0, 0, 8}, {1, 0, 16}, {1, 2, 31}} {
		for _, w := range []uint32{0xffffffff, 0x80000000, 0x7fffffff, 0x01020304, 256, 1, 0} {
			set(t, f, x, w)
			if back := get(t, f, x); back != w {
				t.Errorf("%v was set to %x, and is %x", x, w, back)
			}
		}
	}
}

// P3.1: g0 is 0 in every bank, whatever it is set to, and nothing else is set in its place.
func TestG0(t *testing.T) {
	f, m := filled(t, 3)
	for n := range 3 {
		for bank := range 17 {
			for _, w := range []uint32{1, 0xffffffff, 0} {
				set(t, f, name{n, bank, 0}, w)
				if back := get(t, f, name{n, bank, 0}); back != 0 {
					t.Errorf("g0 of bank %d was set to %x, and is %x", bank, w, back)
				}
			}
		}
	}
	holds(t, f, m)
}

// P3.4: the outs of each window are the ins of the one before it, those of window 0 the ins of the last one; both ways.
func TestOuts(t *testing.T) {
	for nw := 2; nw <= 32; nw++ {
		f := made(t, nw)
		for n := range nw {
			before := n - 1
			if n == 0 {
				before = nw - 1
			}
			for k := range 8 {
				w := uint32(1 + 16*n + k)
				set(t, f, name{n, 0, 8 + k}, w)
				if back := get(t, f, name{before, 0, 24 + k}); back != w {
					t.Errorf("%d windows: o%d of %d was set to %d, and i%d of %d is %d", nw, k, n, w, k, before, back)
				}
				set(t, f, name{before, 16, 24 + k}, w+8)
				if back := get(t, f, name{n, 1, 8 + k}); back != w+8 {
					t.Errorf("%d windows: i%d of %d was set to %d, and o%d of %d is %d", nw, k, before, w+8, k, n, back)
				}
			}
		}
	}
}

// P3.4: globals through any window, others through any bank.
func TestWindowAndBankThatDoNotMatter(t *testing.T) {
	f := made(t, 5)
	for bank := range 17 {
		set(t, f, name{bank % 5, bank, 7}, uint32(100+bank))
	}
	for n := range 5 {
		set(t, f, name{n, 3 * n, 16}, uint32(200+n))
		set(t, f, name{n, 4 * n, 31}, uint32(300+n))
	}
	for n := range 5 {
		for bank := range 17 {
			if w := get(t, f, name{n, bank, 7}); w != uint32(100+bank) {
				t.Errorf("g7 of bank %d is %d through window %d", bank, w, n)
			}
			if w := get(t, f, name{n, bank, 16}); w != uint32(200+n) {
				t.Errorf("l0 of window %d is %d through bank %d", n, w, bank)
			}
			if w := get(t, f, name{n, bank, 31}); w != uint32(300+n) {
				t.Errorf("i7 of window %d is %d through bank %d", n, w, bank)
			}
		}
	}
}

// P3.4: each register in turn is set, by each of its names, and all others stay.
func TestSetChangesOneRegister(t *testing.T) {
	for _, nw := range []int{2, 3} {
		f, m := filled(t, nw)
		for i, x := range names(nw) {
			set(t, f, x, uint32(i))
			m.set(x, uint32(i))
			holds(t, f, m)
		}
	}
}

// P3.4: the same for some registers of more windows.
func TestSetChangesOneRegisterOfMany(t *testing.T) {
	for _, nw := range []int{4, 8, 17, 31, 32} {
		f, m := filled(t, nw)
		all := names(nw)
		for i := 0; i < len(all); i += 397 {
			x := all[i]
			set(t, f, x, uint32(i))
			m.set(x, uint32(i))
			holds(t, f, m)
		}
	}
}

// P3.2: the order of what Window returns and Put takes.
func TestOrderOfWindow(t *testing.T) {
	for _, nw := range []int{2, 7, 32} {
		for _, n := range []int{0, 1, nw - 1} {
			f := made(t, nw)
			for k := range 8 {
				set(t, f, name{n, 0, 16 + k}, uint32(10+k))
				set(t, f, name{n, 0, 24 + k}, uint32(20+k))
			}
			want := []uint32{10, 11, 12, 13, 14, 15, 16, 17, 20, 21, 22, 23, 24, 25, 26, 27}
			if l := window(t, f, n); !slices.Equal(l, want) {
				t.Errorf("Window(%d) = %d; want %d", n, l, want)
			}
			put(t, f, n, words(50, 16))
			for k := range 16 {
				if w := get(t, f, name{n, 0, 16 + k}); w != uint32(50+k) {
					t.Errorf("Put(%d): register %d is %d; want %d", n, 16+k, w, 50+k)
				}
			}
		}
	}
}

// P3.2, P3.4: what was put is seen in the outs of the next window.
func TestPutSeenInOuts(t *testing.T) {
	for nw := 2; nw <= 32; nw++ {
		f := made(t, nw)
		for n := range nw {
			put(t, f, n, words(uint32(100*n), 16))
			next := n + 1
			if n == nw-1 {
				next = 0
			}
			for k := range 8 {
				if w := get(t, f, name{next, 0, 8 + k}); w != uint32(100*n+8+k) {
					t.Errorf("%d windows: after Put(%d), o%d of %d is %d", nw, n, k, next, w)
				}
			}
		}
	}
}

// P3.5: no locals of another window, no globals, and of the ins only the window's own.
func TestPutChangesOneWindow(t *testing.T) {
	for nw := 2; nw <= 32; nw++ {
		f, m := filled(t, nw)
		for n := range nw {
			l := words(uint32(16*n), 16)
			put(t, f, n, l)
			m.put(n, l)
			holds(t, f, m)
		}
	}
}

// P3.2, R3: a window must exist; what is refused changes nothing.
func TestWindowsRefused(t *testing.T) {
	for _, nw := range []int{2, 3, 8, 31, 32} {
		f, m := filled(t, nw)
		for _, n := range beyond(nw) {
			if l, e := f.Window(n); l != nil || e != api.ErrArg {
				t.Errorf("%d windows: Window(%d) = %x, %d; want nil, ErrArg", nw, n, l, e)
			}
			for _, l := range [][]uint32{words(1, 16), words(1, 15), nil} {
				if e := f.Put(n, l); e != api.ErrArg {
					t.Errorf("%d windows: Put(%d, %d words) = %d; want ErrArg", nw, n, len(l), e)
				}
			}
		}
		holds(t, f, m)
	}
}

// P3.2: Put takes 16 words, neither fewer nor more; what is refused changes nothing.
func TestPutRefusesOtherLengths(t *testing.T) {
	f, m := filled(t, 3)
	for _, n := range []int{0, 1, 2} {
		for _, many := range []int{1, 7, 8, 15, 17, 18, 24, 31, 32, 33, 272, 65552} {
			if e := f.Put(n, words(1, many)); e != api.ErrArg {
				t.Errorf("Put(%d, %d words) = %d; want ErrArg", n, many, e)
			}
		}
		for _, l := range [][]uint32{nil, {}, words(1, 16)[:0], words(1, 32)[:15]} {
			if e := f.Put(n, l); e != api.ErrArg {
				t.Errorf("Put(%d, %d words) = %d; want ErrArg", n, len(l), e)
			}
		}
	}
	holds(t, f, m)
}

// P3.2, R5: what Window returned is new memory, with all its capacity, each time.
func TestWindowIndependent(t *testing.T) {
	f, m := filled(t, 3)
	for n := range 3 {
		l, other := window(t, f, n), window(t, f, n)
		for i := range l[:cap(l)] {
			l[:cap(l)][i] = 1
		}
		_ = append(l, 1, 1, 1, 1)
		if !slices.Equal(other, m.window(n)) {
			t.Errorf("Window(%d) shares memory with an earlier one", n)
		}
		holds(t, f, m)
	}
}

// P3.2: what Window returned stays, whatever is set later.
func TestWindowStays(t *testing.T) {
	f, m := filled(t, 3)
	l := window(t, f, 1)
	want := m.window(1)
	for _, x := range names(3) {
		set(t, f, x, 7)
	}
	put(t, f, 1, words(8, 16))
	if !slices.Equal(l, want) {
		t.Errorf("what Window returned became %x; want %x", l, want)
	}
}

// P3.2, R5: Put does not keep its list, and does not change it, nor what is behind it.
func TestPutIndependent(t *testing.T) {
	f, m := filled(t, 3)
	whole := words(100, 24)
	l := whole[4:20]
	put(t, f, 1, l)
	m.put(1, l)
	set(t, f, name{1, 0, 16}, 1)
	set(t, f, name{1, 0, 31}, 2)
	put(t, f, 1, words(7, 16))
	m.put(1, words(7, 16))
	if !slices.Equal(whole, words(100, 24)) {
		t.Errorf("the list given to Put became %d", whole)
	}
	put(t, f, 2, l)
	m.put(2, l)
	for i := range whole {
		whole[i] = 9
	}
	holds(t, f, m)
}

// P3.2: what Window returned can be put, into another window and another file.
func TestPutOfWindow(t *testing.T) {
	f, m := filled(t, 4)
	put(t, f, 2, window(t, f, 0))
	m.put(2, m.window(0))
	holds(t, f, m)
	g, gm := filled(t, 2)
	put(t, g, 1, window(t, f, 3))
	gm.put(1, m.window(3))
	holds(t, g, gm)
	holds(t, f, m)
}

// P3.3: a copy is equal, and neither changes the other; a copy of a copy is one too.
func TestCopy(t *testing.T) {
	for nw := 2; nw <= 32; nw++ {
		all := names(nw)
		f, m := filled(t, nw)
		c := f.Copy()
		if c == nil || c == f {
			t.Fatalf("Copy returned %p of %p; want a file of its own", c, f)
		}
		holds(t, c, m)
		cm := m.copy()
		for i := 0; i < len(all); i += 29 {
			set(t, f, all[i], 1)
			m.set(all[i], 1)
		}
		put(t, f, 1, words(2, 16))
		m.put(1, words(2, 16))
		holds(t, f, m)
		holds(t, c, cm)
		d, dm := c.Copy(), cm.copy()
		for i := 0; i < len(all); i += 31 {
			set(t, c, all[i], 3)
			cm.set(all[i], 3)
		}
		put(t, c, nw-1, words(4, 16))
		cm.put(nw-1, words(4, 16))
		holds(t, f, m)
		holds(t, c, cm)
		holds(t, d, dm)
	}
}

// R2, P3.1 to P3.3: nil files, and files that no call made: ErrNil, also where the arguments are not valid.
func TestNoFile(t *testing.T) {
	for _, f := range []*file.File{nil, {}, new(file.File)} {
		for _, x := range []name{{0, 0, 0}, {0, 0, 1}, {0, 0, 8}, {1, 0, 16}, {0, 16, 31}, {-1, 0, 1}, {32, 0, 1}, {0, 17, 1}, {0, 0, 32}, {-1, -1, -1}, {math.MinInt, math.MaxInt, math.MinInt}} {
			if w, e := f.Get(x.window, x.bank, x.reg); w != 0 || e != api.ErrNil {
				t.Errorf("Get%v of no file = %x, %d; want 0, ErrNil", x, w, e)
			}
			if e := f.Set(x.window, x.bank, x.reg, 7); e != api.ErrNil {
				t.Errorf("Set%v of no file = %d; want ErrNil", x, e)
			}
		}
		for _, n := range []int{0, 1, 31, 32, -1, math.MinInt, math.MaxInt} {
			if l, e := f.Window(n); l != nil || e != api.ErrNil {
				t.Errorf("Window(%d) of no file = %x, %d; want nil, ErrNil", n, l, e)
			}
			for _, l := range [][]uint32{words(1, 16), words(1, 15), words(1, 17), nil} {
				if e := f.Put(n, l); e != api.ErrNil {
					t.Errorf("Put(%d, %d words) of no file = %d; want ErrNil", n, len(l), e)
				}
			}
		}
		if f.NW() != 0 {
			t.Errorf("NW of no file is %d", f.NW())
		}
		if c := f.Copy(); c != nil {
			t.Errorf("Copy of no file is %v; want nil", c)
		}
	}
}

// P3.1 to P3.5: long sequences of all calls, on a file and a copy of it that change places.
func TestSequences(t *testing.T) {
	state := uint32(2463534242)
	below := func(n int) int {
		state ^= state << 13
		state ^= state >> 17
		state ^= state << 5
		return int(state>>8) % n
	}
	for _, nw := range []int{2, 3, 5, 8, 32} {
		f, m := filled(t, nw)
		g, gm := f.Copy(), m.copy()
		for step := range 3000 {
			x, other, w := name{below(nw), below(17), below(32)}, below(nw), uint32(below(1<<24))
			switch n := below(100); {
			case n == 0:
				g, gm = f.Copy(), m.copy()
			case n < 10:
				f, m, g, gm = g, gm, f, m
			case n < 20:
				put(t, f, x.window, words(w, 16))
				m.put(x.window, words(w, 16))
			case n < 30:
				put(t, f, x.window, window(t, g, other))
				m.put(x.window, gm.window(other))
			default:
				set(t, f, x, w)
				m.set(x, w)
			}
			if step%100 == 0 {
				holds(t, f, m)
				holds(t, g, gm)
			}
		}
		holds(t, f, m)
		holds(t, g, gm)
	}
}
