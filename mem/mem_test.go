package mem_test

import (
	"math"
	"slices"
	"testing"

	"muntin/api"
	"muntin/mem"
)

// model is what a memory must hold: its bytes. It answers by the chapter's words alone.
type model []byte

func (m model) copy() model { return slices.Clone(m) }

// fault is the error of an access to many units, of so many bytes each, from addr on.
func (m model) fault(addr uint32, unit, many int) api.Errno {
	switch {
	case unit != 1 && unit != 4, many < 0:
		return api.ErrArg
	case unit == 4 && addr%4 != 0:
		return api.ErrAlign
	}
	// Beyond 2^22 words none are within any memory; below it nothing overflows.
	if many > 1<<22 || int64(addr)+int64(unit*many) > int64(len(m)) {
		return api.ErrRange
	}
	return api.OK
}

func (m model) load(addr uint32, unit int) (uint32, api.Errno) {
	if e := m.fault(addr, unit, 1); e != api.OK {
		return 0, e
	}
	if unit == 1 {
		return uint32(m[addr]), api.OK
	}
	return m.word(addr), api.OK
}

func (m model) word(addr uint32) uint32 {
	return uint32(m[addr])*0x1000000 + uint32(m[addr+1])*0x10000 + uint32(m[addr+2])*0x100 + uint32(m[addr+3])
}

func (m model) store(addr uint32, unit int, w uint32) api.Errno {
	if e := m.fault(addr, unit, 1); e != api.OK {
		return e
	}
	if unit == 1 {
		m[addr] = byte(w % 256)
		return api.OK
	}
	m[addr], m[addr+1], m[addr+2], m[addr+3] = byte(w/0x1000000), byte(w/0x10000%256), byte(w/0x100%256), byte(w%256)
	return api.OK
}

func (m model) put(addr uint32, l []uint32) api.Errno {
	if e := m.fault(addr, 4, len(l)); e != api.OK {
		return e
	}
	for i, w := range l {
		m.store(addr+uint32(4*i), 4, w)
	}
	return api.OK
}

func (m model) words(addr uint32, many int) ([]uint32, api.Errno) {
	if e := m.fault(addr, 4, many); e != api.OK {
		return nil, e
	}
	var l []uint32
	for i := range many {
		w, _ := m.load(addr+uint32(4*i), 4)
		l = append(l, w)
	}
	return l, api.OK
}

// words returns n words, no two of them equal, that fill all their bytes.
func words(first uint32, n int) []uint32 {
	l := make([]uint32, n)
	for i := range l {
		l[i] = (first + uint32(i)) * 0x9e3779b1
	}
	return l
}

func made(t *testing.T, size int) *mem.Mem {
	t.Helper()
	m, e := mem.New(size)
	if m == nil || e != api.OK {
		t.Fatalf("New(%d) = %p, %d; want a memory", size, m, e)
	}
	return m
}

// filled returns a memory in which no byte is like its neighbours, and its model.
func filled(t *testing.T, size int) (*mem.Mem, model) {
	t.Helper()
	m, want := made(t, size), make(model, size)
	for i := range want {
		want[i] = byte(0x80 + 7*i)
		if e := m.Store(uint32(i), 1, uint32(want[i])); e != api.OK {
			t.Fatalf("Store(%x, 1) = %d", i, e)
		}
	}
	return m, want
}

// holds compares a memory with its model: byte by byte, word by word, and whole.
func holds(t *testing.T, m *mem.Mem, want model) {
	t.Helper()
	if m.Size() != len(want) {
		t.Fatalf("Size() = %d; want %d", m.Size(), len(want))
	}
	for i := range want {
		if b, e := m.Load(uint32(i), 1); b != uint32(want[i]) || e != api.OK {
			t.Fatalf("%d bytes: Load(%x, 1) = %x, %d; want %x", len(want), i, b, e, want[i])
		}
	}
	for i := uint32(0); i < uint32(len(want)); i += 4 {
		if w, e := m.Load(i, 4); w != want.word(i) || e != api.OK {
			t.Fatalf("%d bytes: Load(%x, 4) = %x, %d; want %x", len(want), i, w, e, want.word(i))
		}
	}
	reads(t, m, want, 0, len(want)/4)
}

func loads(t *testing.T, m *mem.Mem, want model, addr uint32, unit int) {
	t.Helper()
	w, e := want.load(addr, unit)
	if got, err := m.Load(addr, unit); got != w || err != e {
		t.Fatalf("%d bytes: Load(%x, %d) = %x, %d; want %x, %d", len(want), addr, unit, got, err, w, e)
	}
}

// stores stores in both.
func stores(t *testing.T, m *mem.Mem, want model, addr uint32, unit int, w uint32) {
	t.Helper()
	e := want.store(addr, unit, w)
	if got := m.Store(addr, unit, w); got != e {
		t.Fatalf("%d bytes: Store(%x, %d, %x) = %d; want %d", len(want), addr, unit, w, got, e)
	}
}

func reads(t *testing.T, m *mem.Mem, want model, addr uint32, many int) {
	t.Helper()
	l, e := want.words(addr, many)
	if got, err := m.Words(addr, many); !slices.Equal(got, l) || err != e {
		t.Fatalf("%d bytes: Words(%x, %d) = %x, %d; want %x, %d", len(want), addr, many, got, err, l, e)
	}
}

// puts puts in both.
func puts(t *testing.T, m *mem.Mem, want model, addr uint32, l []uint32) {
	t.Helper()
	e := want.put(addr, l)
	if got := m.Put(addr, l); got != e {
		t.Fatalf("%d bytes: Put(%x, %d words) = %d; want %d", len(want), addr, len(l), got, e)
	}
}

// addresses are all those of a memory, those just beyond it, the greatest ones, and those that would be within it if they were cut off or had a sign.
func addresses(size int) []uint32 {
	var l []uint32
	for n := range uint32(size + 9) {
		l = append(l, n)
	}
	for _, n := range []uint32{1 << 8, 1 << 16, 1<<22 - 4, 1 << 22, 1 << 24, 1 << 30, 1<<31 - 4, 1 << 31, 1<<32 - 8, 1<<32 - 4} {
		l = append(l, n-1, n, n+1, n+2, n+3, n+4, n+uint32(size)-4, n+uint32(size))
	}
	return append(l, -uint32(size), -uint32(size)-4, math.MaxUint32)
}

// noUnits are numbers of bytes that are neither 1 nor 4, also some that would be if they were cut off.
func noUnits() []int {
	return []int{0, 2, 3, 5, 6, 7, 8, 12, 16, 32, 64, 256, 257, 260, 1<<16 + 1, 1<<16 + 4, 1 << 32, 1<<32 + 1, 1<<32 + 4, -1, -2, -3, -4, -8, 1 - 256, 4 - 256, 1 - 1<<32, 4 - 1<<32, math.MinInt, math.MinInt + 1, math.MinInt + 4, math.MaxInt}
}

// tooMany are numbers of words that no memory has, also some whose bytes would be few if they were cut off.
func tooMany() []int {
	return []int{1 << 20, 1<<20 + 1, 1 << 22, 1<<29 - 1, 1 << 29, 1<<30 - 1, 1 << 30, 1<<30 + 1, 1 << 31, 1 << 32, 1<<32 + 1, 1<<61 - 1, 1 << 61, 1<<62 - 1, 1 << 62, 1<<62 + 1, math.MaxInt - 3, math.MaxInt - 1, math.MaxInt}
}

// P5.1 to P5.3: the chapter's examples, in their order, on one memory.
func TestExamples(t *testing.T) {
	m := made(t, 16)
	load := func(addr uint32, many int, want uint32, errno api.Errno) {
		t.Helper()
		if w, e := m.Load(addr, many); w != want || e != errno {
			t.Errorf("Load(%x, %d) = %x, %d; want %x, %d", addr, many, w, e, want, errno)
		}
	}
	done := func(e, want api.Errno) {
		t.Helper()
		if e != want {
			t.Errorf("error %d; want %d", e, want)
		}
	}
	words := func() {
		t.Helper()
		if l, e := m.Words(8, 2); !slices.Equal(l, []uint32{5, 6}) || e != api.OK {
			t.Errorf("Words(8, 2) = %x, %d; want 5 6", l, e)
		}
	}
	done(m.Store(4, 4, 0x1020304), api.OK)
	load(4, 1, 1, api.OK)
	load(7, 1, 4, api.OK)
	load(4, 4, 0x1020304, api.OK)
	done(m.Store(5, 1, 0x1ff), api.OK)
	load(4, 4, 0x1ff0304, api.OK)
	load(6, 4, 0, api.ErrAlign)
	load(16, 4, 0, api.ErrRange)
	load(18, 4, 0, api.ErrAlign)
	load(0, 2, 0, api.ErrArg)
	load(0xfffffffc, 4, 0, api.ErrRange)
	done(m.Put(8, []uint32{5, 6}), api.OK)
	words()
	done(m.Put(12, []uint32{1, 2}), api.ErrRange)
	words()
}

// P5.1, P5.3: sizes from none to the greatest one; all bytes 0 at first.
func TestSizes(t *testing.T) {
	for _, size := range []int{0, 4, 8, 12, 16, 20, 252, 256, 260, 1 << 16, 1<<16 + 4, 1<<22 - 4, 1 << 22} {
		m := made(t, size)
		holds(t, m, make(model, size))
		holds(t, m.Copy(), make(model, size))
	}
}

// P5.1, R1, R3: also sizes that would be valid ones if they were cut off.
func TestSizesRefused(t *testing.T) {
	for _, size := range []int{1, 2, 3, 5, 6, 7, 9, 17, 18, 19, 1<<22 - 1, 1<<22 - 2, 1<<22 - 3, 1<<22 + 1, 1<<22 + 2, 1<<22 + 3, 1<<22 + 4, 1 << 23, 1 << 24, 1 << 31, 1<<31 + 4, 1 << 32, 1<<32 + 4, 1<<32 + 16, 1<<32 - 4, -1, -2, -3, -4, -8, -16, -1 << 22, -1 << 32, -1<<32 + 4, math.MinInt, math.MinInt + 4, math.MaxInt - 3, math.MaxInt} {
		if m, e := mem.New(size); m != nil || e != api.ErrArg {
			t.Errorf("New(%d) = %p, %d; want nil, ErrArg", size, m, e)
		}
	}
}

// P5.1, R4: memories know nothing of each other.
func TestMemoriesApart(t *testing.T) {
	m, want := filled(t, 16)
	holds(t, made(t, 16), make(model, 16))
	other, otherWant := filled(t, 16)
	stores(t, other, otherWant, 4, 4, 1)
	holds(t, m, want)
}

// P5.1: bytes and words at all addresses of small memories, just beyond them, and at the greatest ones.
func TestLoadEverywhere(t *testing.T) {
	for size := 0; size <= 64; size += 4 {
		m, want := filled(t, size)
		for _, addr := range addresses(size) {
			loads(t, m, want, addr, 1)
			loads(t, m, want, addr, 4)
		}
		holds(t, m, want)
	}
}

// P5.1, P5.4: the same, of stores; all other bytes stay, and all of them if the call is refused.
func TestStoreEverywhere(t *testing.T) {
	for size := 0; size <= 32; size += 4 {
		m, want := filled(t, size)
		for i, addr := range addresses(size) {
			for _, unit := range []int{1, 4} {
				stores(t, m, want, addr, unit, uint32(i+1)*0x9e3779b1)
				holds(t, m, want)
			}
		}
	}
}

// P5.1: the edges of some memories, without the model: the first byte and word, the last ones, and those just beyond.
func TestEdges(t *testing.T) {
	for _, size := range []uint32{4, 8, 16, 256, 1 << 16, 1 << 22} {
		m := made(t, int(size))
		for _, x := range []struct {
			addr uint32
			many int
			e    api.Errno
		}{
			{0, 1, api.OK}, {1, 1, api.OK}, {3, 1, api.OK}, {size - 1, 1, api.OK}, {size, 1, api.ErrRange}, {size + 1, 1, api.ErrRange},
			{0, 4, api.OK}, {size - 4, 4, api.OK}, {size, 4, api.ErrRange}, {size + 4, 4, api.ErrRange},
			{1, 4, api.ErrAlign}, {2, 4, api.ErrAlign}, {3, 4, api.ErrAlign},
			{size - 3, 4, api.ErrAlign}, {size - 2, 4, api.ErrAlign}, {size - 1, 4, api.ErrAlign},
			{size + 1, 4, api.ErrAlign}, {size + 2, 4, api.ErrAlign}, {size + 3, 4, api.ErrAlign},
			{1 << 31, 1, api.ErrRange}, {1 << 31, 4, api.ErrRange}, {1<<31 + 1, 4, api.ErrAlign},
			{0xffffffff, 1, api.ErrRange}, {0xffffffff, 4, api.ErrAlign},
			{0xfffffffe, 1, api.ErrRange}, {0xfffffffe, 4, api.ErrAlign},
			{0xfffffffd, 1, api.ErrRange}, {0xfffffffd, 4, api.ErrAlign},
			{0xfffffffc, 1, api.ErrRange}, {0xfffffffc, 4, api.ErrRange},
		} {
			w := 0x80 + x.addr%0x80
			if e := m.Store(x.addr, x.many, w); e != x.e {
				t.Errorf("%d bytes: Store(%x, %d) = %d; want %d", size, x.addr, x.many, e, x.e)
			}
			if x.e != api.OK {
				w = 0
			}
			if got, e := m.Load(x.addr, x.many); got != w || e != x.e {
				t.Errorf("%d bytes: Load(%x, %d) = %x, %d; want %x, %d", size, x.addr, x.many, got, e, w, x.e)
			}
		}
	}
}

// P5.1: a memory of no bytes has none, and is a memory.
func TestNoBytes(t *testing.T) {
	m := made(t, 0)
	for range 2 {
		for _, addr := range []uint32{0, 4, 0xfffffffc} {
			for _, many := range []int{1, 4} {
				if w, e := m.Load(addr, many); w != 0 || e != api.ErrRange {
					t.Errorf("Load(%x, %d) = %x, %d; want 0, ErrRange", addr, many, w, e)
				}
				if e := m.Store(addr, many, 5); e != api.ErrRange {
					t.Errorf("Store(%x, %d) = %d; want ErrRange", addr, many, e)
				}
			}
		}
		if l, e := m.Words(0, 0); len(l) != 0 || e != api.OK {
			t.Errorf("Words(0, 0) = %x, %d; want none, OK", l, e)
		}
		if e := m.Put(0, nil); e != api.OK {
			t.Errorf("Put(0, no words) = %d; want OK", e)
		}
		if e := m.Put(0, []uint32{1}); e != api.ErrRange {
			t.Errorf("Put(0, a word) = %d; want ErrRange", e)
		}
		if m.Size() != 0 {
			t.Errorf("Size() = %d; want 0", m.Size())
		}
		// A copy of it is one as well, which the second round tells.
		m = m.Copy()
	}
}

// P5.1: other numbers of bytes than 1 and 4, at addresses that exist and ones that do not: ErrArg comes first.
func TestNumbersOfBytesRefused(t *testing.T) {
	m, want := filled(t, 16)
	for _, many := range noUnits() {
		for _, addr := range []uint32{0, 1, 2, 4, 8, 12, 14, 15, 16, 17, 18, 20, 1 << 22, 0xfffffffc, 0xfffffffe, 0xffffffff} {
			if w, e := m.Load(addr, many); w != 0 || e != api.ErrArg {
				t.Errorf("Load(%x, %d) = %x, %d; want 0, ErrArg", addr, many, w, e)
			}
			if e := m.Store(addr, many, 5); e != api.ErrArg {
				t.Errorf("Store(%x, %d) = %d; want ErrArg", addr, many, e)
			}
		}
	}
	holds(t, m, want)
}

// P5.4: a word is its four bytes, the first one the most significant, both ways.
func TestBytesOfWords(t *testing.T) {
	m := made(t, 12)
	for _, w := range []uint32{0x01020304, 0xfffefdfc, 0x80000000, 0x7fffffff, 0x00ff0000, 0x0000ff00, 0xff0000ff, 0xffffffff, 1, 0} {
		bytes := [4]uint32{w >> 24, w >> 16 & 0xff, w >> 8 & 0xff, w & 0xff}
		if e := m.Store(4, 4, w); e != api.OK {
			t.Fatalf("Store(4, 4, %x) = %d", w, e)
		}
		for i, b := range bytes {
			if got, e := m.Load(uint32(4+i), 1); got != b || e != api.OK {
				t.Errorf("byte %d of %x is %x, %d; want %x", i, w, got, e, b)
			}
			if e := m.Store(uint32(8+i), 1, b); e != api.OK {
				t.Fatalf("Store(%d, 1, %x) = %d", 8+i, b, e)
			}
		}
		for _, addr := range []uint32{4, 8} {
			if got, e := m.Load(addr, 4); got != w || e != api.OK {
				t.Errorf("Load(%d, 4) = %x, %d; want %x", addr, got, e, w)
			}
		}
		if l, e := m.Words(0, 3); !slices.Equal(l, []uint32{0, w, w}) || e != api.OK {
			t.Errorf("Words(0, 3) = %x, %d; want 0 and twice %x", l, e, w)
		}
		if e := m.Put(8, []uint32{^w}); e != api.OK {
			t.Fatalf("Put(8, %x) = %d", ^w, e)
		}
		for i, b := range bytes {
			if got, e := m.Load(uint32(8+i), 1); got != 0xff-b || e != api.OK {
				t.Errorf("byte %d of %x is %x, %d; want %x", i, ^w, got, e, 0xff-b)
			}
		}
	}
}

// P5.1: a byte becomes w modulo 256, and the bytes beside it stay.
func TestBytesCutOff(t *testing.T) {
	for _, w := range []uint32{0, 1, 0x7f, 0x80, 0xff, 0x100, 0x101, 0x1ff, 0xff00, 0x10000, 0x12345678, 0x80000000, 0xffffff00, 0xffffff80, 0xffffffff} {
		m, want := filled(t, 8)
		for addr := range uint32(8) {
			stores(t, m, want, addr, 1, w)
			if got, e := m.Load(addr, 1); got != w%256 || e != api.OK {
				t.Errorf("byte %d was set to %x, and is %x, %d", addr, w, got, e)
			}
			holds(t, m, want)
		}
	}
}

// P5.2, P5.4: all addresses of small memories, and beyond, with no words up to more than fit.
func TestPutEverywhere(t *testing.T) {
	for size := 0; size <= 24; size += 4 {
		m, want := filled(t, size)
		for _, addr := range addresses(size) {
			for many := range size/4 + 3 {
				puts(t, m, want, addr, words(addr+uint32(many), many))
				holds(t, m, want)
			}
		}
	}
}

// P5.2: the same, of Words.
func TestWordsEverywhere(t *testing.T) {
	for size := 0; size <= 48; size += 4 {
		m, want := filled(t, size)
		for _, addr := range addresses(size) {
			for many := -2; many < size/4+3; many++ {
				reads(t, m, want, addr, many)
			}
		}
		holds(t, m, want)
	}
}

// P5.2: just as many words as fit, and one more, which changes nothing; without the model.
func TestAsManyAsFit(t *testing.T) {
	const size = 32
	for at := 0; at <= size; at += 4 {
		m := made(t, size)
		fit := (size - at) / 4
		l := words(1, fit)
		if e := m.Put(uint32(at), l); e != api.OK {
			t.Errorf("Put(%d, %d words) = %d; want OK", at, fit, e)
		}
		if e := m.Put(uint32(at), words(100, fit+1)); e != api.ErrRange {
			t.Errorf("Put(%d, %d words) = %d; want ErrRange", at, fit+1, e)
		}
		if got, e := m.Words(uint32(at), fit); !slices.Equal(got, l) || e != api.OK {
			t.Errorf("Words(%d, %d) = %x, %d; want %x", at, fit, got, e, l)
		}
		if got, e := m.Words(uint32(at), fit+1); got != nil || e != api.ErrRange {
			t.Errorf("Words(%d, %d) = %x, %d; want nil, ErrRange", at, fit+1, got, e)
		}
		if got, e := m.Words(0, size/4); !slices.Equal(got, append(make([]uint32, at/4), l...)) || e != api.OK {
			t.Errorf("Words(0, %d) = %x, %d; want %x from %d on, and 0 before", size/4, got, e, l, at)
		}
	}
}

// P5.2: no words, at the addresses that exist, at the one behind them, and beyond.
func TestNoWords(t *testing.T) {
	for _, size := range []uint32{0, 4, 16, 1 << 22} {
		m := made(t, int(size))
		for _, x := range []struct {
			addr uint32
			e    api.Errno
		}{{0, api.OK}, {size, api.OK}, {size + 4, api.ErrRange}, {1 << 31, api.ErrRange}, {0xfffffffc, api.ErrRange}, {1, api.ErrAlign}, {size + 1, api.ErrAlign}, {size + 2, api.ErrAlign}, {size + 3, api.ErrAlign}, {0xffffffff, api.ErrAlign}} {
			for _, l := range [][]uint32{nil, {}, words(1, 3)[:0]} {
				if e := m.Put(x.addr, l); e != x.e {
					t.Errorf("%d bytes: Put(%x, no words) = %d; want %d", size, x.addr, e, x.e)
				}
			}
			if l, e := m.Words(x.addr, 0); len(l) != 0 || e != x.e {
				t.Errorf("%d bytes: Words(%x, 0) = %x, %d; want none, %d", size, x.addr, l, e, x.e)
			}
		}
	}
}

// P5.2, R1: numbers of words below 0, and far beyond all memories.
func TestNumbersOfWords(t *testing.T) {
	for _, size := range []int{0, 4, 16, 1 << 22} {
		m := made(t, size)
		for _, addr := range []uint32{0, 4, 8, uint32(size) - 4, uint32(size), uint32(size) + 4, 1 << 31, 0xfffffffc} {
			for _, many := range []int{-1, -2, -3, -4, -8, 1 - 1<<32, -1 << 32, -1 << 30, -1 << 61, -1 << 62, math.MinInt, math.MinInt + 1, math.MinInt + 4} {
				for off := range uint32(4) {
					if l, e := m.Words(addr+off, many); l != nil || e != api.ErrArg {
						t.Errorf("%d bytes: Words(%x, %d) = %d words, %d; want nil, ErrArg", size, addr+off, many, len(l), e)
					}
				}
			}
			for _, many := range tooMany() {
				if size == 1<<22 && addr == 0 && many == 1<<20 {
					continue // that many words are all that it has
				}
				if l, e := m.Words(addr, many); l != nil || e != api.ErrRange {
					t.Errorf("%d bytes: Words(%x, %d) = %d words, %d; want nil, ErrRange", size, addr, many, len(l), e)
				}
				if l, e := m.Words(addr+1, many); l != nil || e != api.ErrAlign {
					t.Errorf("%d bytes: Words(%x, %d) = %d words, %d; want nil, ErrAlign", size, addr+1, many, len(l), e)
				}
			}
		}
	}
}

// P5.1, P5.2: the greatest memory, whole, and its last word.
func TestGreatestMemory(t *testing.T) {
	const size, many = 1 << 22, 1 << 20
	m, want := made(t, size), make(model, size)
	puts(t, m, want, 0, words(1, many))
	holds(t, m, want)
	puts(t, m, want, 0, words(2, many+1))
	puts(t, m, want, 4, words(2, many))
	puts(t, m, want, size-4, []uint32{1, 2})
	reads(t, m, want, 0, many+1)
	reads(t, m, want, 4, many)
	reads(t, m, want, size-4, 2)
	puts(t, m, want, size-4, []uint32{0x01020304})
	puts(t, m, want, 4, words(3, many-1))
	holds(t, m, want)
}

// P5.1, P5.2, R2: the order of the errors, where several apply.
func TestOrderOfErrors(t *testing.T) {
	m, want := filled(t, 16)
	for _, x := range []struct {
		addr uint32
		many int
		e    api.Errno
	}{{18, 2, api.ErrArg}, {2, 0, api.ErrArg}, {16, 3, api.ErrArg}, {18, 4, api.ErrAlign}, {17, 4, api.ErrAlign}, {0xffffffff, 4, api.ErrAlign}, {20, 4, api.ErrRange}, {18, 1, api.ErrRange}} {
		if w, e := m.Load(x.addr, x.many); w != 0 || e != x.e {
			t.Errorf("Load(%d, %d) = %x, %d; want 0, %d", x.addr, x.many, w, e, x.e)
		}
		if e := m.Store(x.addr, x.many, 5); e != x.e {
			t.Errorf("Store(%d, %d) = %d; want %d", x.addr, x.many, e, x.e)
		}
	}
	for _, addr := range []uint32{1, 2, 3, 13, 14, 15, 17, 18, 19, 0xfffffffd, 0xffffffff} {
		for many := range 7 {
			if e := m.Put(addr, words(1, many)); e != api.ErrAlign {
				t.Errorf("Put(%x, %d words) = %d; want ErrAlign", addr, many, e)
			}
			if l, e := m.Words(addr, many); l != nil || e != api.ErrAlign {
				t.Errorf("Words(%x, %d) = %x, %d; want nil, ErrAlign", addr, many, l, e)
			}
		}
		if l, e := m.Words(addr, -1); l != nil || e != api.ErrArg {
			t.Errorf("Words(%x, -1) = %x, %d; want nil, ErrArg", addr, l, e)
		}
	}
	holds(t, m, want)
}

// P5.4: bytes, words and lists of them, each read in the ways of all.
func TestLoadedAgain(t *testing.T) {
	m, want := filled(t, 40)
	puts(t, m, want, 4, words(1, 5))
	holds(t, m, want)
	stores(t, m, want, 9, 1, 0xab)
	holds(t, m, want)
	stores(t, m, want, 20, 4, 0xdeadbeef)
	holds(t, m, want)
	puts(t, m, want, 20, words(9, 2))
	holds(t, m, want)
	l, e := m.Words(4, 5)
	if e != api.OK {
		t.Fatalf("Words(4, 5): error %d", e)
	}
	puts(t, m, want, 12, l)
	holds(t, m, want)
}

// P5.2, R5: what Words returned is not the memory's, nor a later call's, with all its capacity.
func TestWordsIndependent(t *testing.T) {
	m, want := filled(t, 32)
	for _, many := range []int{0, 1, 5, 8} {
		l, errno := m.Words(0, many)
		other, otherErrno := m.Words(0, many)
		if errno != api.OK || otherErrno != api.OK {
			t.Fatalf("Words(0, %d): errors %d, %d", many, errno, otherErrno)
		}
		whole := l[:cap(l)]
		for i := range whole {
			whole[i] = 1
		}
		_ = append(l, 1, 1, 1, 1)
		if w, _ := want.words(0, many); !slices.Equal(other, w) {
			t.Errorf("Words(0, %d) shares memory with an earlier one", many)
		}
		holds(t, m, want)
	}
}

// P5.2: what Words returned stays, whatever is stored later.
func TestWordsStay(t *testing.T) {
	m, want := filled(t, 16)
	l, _ := m.Words(0, 4)
	kept := slices.Clone(l)
	puts(t, m, want, 0, words(5, 4))
	stores(t, m, want, 3, 1, 0x77)
	if !slices.Equal(l, kept) {
		t.Errorf("what Words returned became %x; want %x", l, kept)
	}
}

// P5.2, R5: Put does not keep its list, and does not change it, nor what is behind it.
func TestPutIndependent(t *testing.T) {
	m, want := filled(t, 32)
	whole := words(1, 12)
	l := whole[3:7]
	puts(t, m, want, 8, l)
	puts(t, m, want, 24, l)
	stores(t, m, want, 8, 4, 5)
	puts(t, m, want, 8, words(20, 4))
	if !slices.Equal(whole, words(1, 12)) {
		t.Errorf("the list given to Put became %x", whole)
	}
	puts(t, m, want, 8, l)
	for i := range whole {
		whole[i] = 9
	}
	holds(t, m, want)
}

// P5.3: a copy is equal, and neither changes the other; a copy of a copy is one too.
func TestCopy(t *testing.T) {
	for _, size := range []int{4, 8, 16, 64, 256} {
		m, want := filled(t, size)
		c := m.Copy()
		if c == nil || c == m {
			t.Fatalf("Copy returned %p of %p; want a memory of its own", c, m)
		}
		cwant := want.copy()
		holds(t, c, cwant)
		last := uint32(size - 4)
		stores(t, m, want, 0, 4, 0x11223344)
		stores(t, m, want, last+3, 1, 0x55)
		holds(t, m, want)
		holds(t, c, cwant)
		d, dwant := c.Copy(), cwant.copy()
		puts(t, c, cwant, 0, words(3, size/4))
		holds(t, m, want)
		holds(t, c, cwant)
		holds(t, d, dwant)
		stores(t, d, dwant, last, 4, 0x66778899)
		holds(t, m, want)
		holds(t, c, cwant)
		holds(t, d, dwant)
	}
}

// P5.3: the size is what New was given, whatever is done, and a copy's too.
func TestSize(t *testing.T) {
	for _, size := range []int{0, 4, 8, 1 << 12, 1 << 22} {
		m := made(t, size)
		m.Put(0, words(1, size/4))
		m.Put(uint32(size), words(1, 1))
		m.Store(uint32(size), 1, 1)
		if m.Size() != size || m.Copy().Size() != size {
			t.Errorf("New(%d) has the size %d, its copy %d", size, m.Size(), m.Copy().Size())
		}
	}
}

// P5.1 to P5.3, R2: nil memories, and memories that no call made: ErrNil, also where the arguments are not valid.
func TestNoMemory(t *testing.T) {
	for _, m := range []*mem.Mem{nil, {}, new(mem.Mem)} {
		for range 2 {
			for _, addr := range []uint32{0, 1, 4, 16, 1 << 22, 0xfffffffc, 0xffffffff} {
				for _, many := range append(noUnits(), 1, 4) {
					if w, e := m.Load(addr, many); w != 0 || e != api.ErrNil {
						t.Errorf("Load(%x, %d) of no memory = %x, %d; want 0, ErrNil", addr, many, w, e)
					}
					if e := m.Store(addr, many, 5); e != api.ErrNil {
						t.Errorf("Store(%x, %d) of no memory = %d; want ErrNil", addr, many, e)
					}
				}
				for _, l := range [][]uint32{nil, {}, {1}, words(1, 100)} {
					if e := m.Put(addr, l); e != api.ErrNil {
						t.Errorf("Put(%x, %d words) of no memory = %d; want ErrNil", addr, len(l), e)
					}
				}
				for _, many := range append(tooMany(), 0, 1, 4, -1, math.MinInt) {
					if l, e := m.Words(addr, many); l != nil || e != api.ErrNil {
						t.Errorf("Words(%x, %d) of no memory = %x, %d; want nil, ErrNil", addr, many, l, e)
					}
				}
			}
			if m.Size() != 0 {
				t.Errorf("Size of no memory is %d", m.Size())
			}
			if c := m.Copy(); c != nil {
				t.Errorf("Copy of no memory is %p; want nil", c)
			}
		}
	}
}

// P5.1 to P5.4: long sequences of all calls, valid ones and others, on a memory and a copy of it that change places.
func TestSequences(t *testing.T) {
	state := uint32(2463534242)
	next := func() uint32 {
		state ^= state << 13
		state ^= state >> 17
		state ^= state << 5
		return state
	}
	below := func(n int) int { return int(next()>>8) % n }
	for _, size := range []int{0, 4, 12, 64, 132} {
		m, want := filled(t, size)
		c, cwant := m.Copy(), want.copy()
		for step := range 4000 {
			addr := uint32(below(size + 8))
			if below(2) == 0 {
				addr -= addr % 4
			}
			switch n := below(100); {
			case n == 0:
				c, cwant = m.Copy(), want.copy()
			case n < 10:
				m, want, c, cwant = c, cwant, m, want
			case n < 40:
				stores(t, m, want, addr, []int{1, 4, 1, 4, 2}[below(5)], next())
			case n < 60:
				loads(t, m, want, addr, []int{1, 4, 1, 4, 3}[below(5)])
			case n < 80:
				puts(t, m, want, addr, words(next(), below(size/4+2)))
			default:
				reads(t, m, want, addr, below(size/4+3)-1)
			}
			if step%100 == 0 {
				holds(t, m, want)
				holds(t, c, cwant)
			}
		}
		holds(t, m, want)
		holds(t, c, cwant)
	}
}
