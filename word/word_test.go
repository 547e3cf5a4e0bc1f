package word_test

import (
	"math/big"
	"testing"

	"muntin/api"
	"muntin/word"
)

const noSuchOp = api.AlEq + 1

// words returns the edges of what a word can be, and some that are scattered between them by a fixed rule.
func words() []uint32 {
	l := []uint32{
		0, 1, 2, 3, 4, 5, 7, 10, 12, 30, 31, 32, 33, 63, 64, 255, 256, 0xffff, 0x10000, 0x10001,
		0x55555555, 0x7ffffffe, 0x7fffffff, 0x80000000, 0x80000001, 0xaaaaaaaa, 0xffff0000, 0xffffffe0, 0xffffffe1, 0xfffffff9, 0xfffffffe, 0xffffffff,
	}
	w := uint32(2463534242)
	for range 64 {
		w ^= w << 13
		w ^= w >> 17
		w ^= w << 5
		l = append(l, w)
	}
	return l
}

func eachPair(f func(a, b uint32)) {
	l := words()
	for _, a := range l {
		for _, b := range l {
			f(a, b)
		}
	}
}

func do(t *testing.T, op uint8, a, b uint32) uint32 {
	t.Helper()
	w, ok := word.Do(op, a, b)
	if !ok {
		t.Fatalf("Do(%d, %x, %x) has no result", op, a, b)
	}
	return w
}

func unsigned(w uint32) *big.Int { return new(big.Int).SetUint64(uint64(w)) }

// signed is the chapter's definition: from -2^31 to 2^31 - 1, equal to w modulo 2^32.
func signed(w uint32) *big.Int {
	n := unsigned(w)
	if n.Bit(31) == 1 {
		n.Sub(n, new(big.Int).Lsh(big.NewInt(1), 32))
	}
	return n
}

func modulo(n *big.Int) uint32 {
	return uint32(new(big.Int).Mod(n, new(big.Int).Lsh(big.NewInt(1), 32)).Uint64())
}

func one(is bool) uint32 {
	if is {
		return 1
	}
	return 0
}

// bits builds a word from what each of its bits is said to be.
func bits(bit func(i int) bool) uint32 {
	var w uint32
	for i := range 32 {
		w |= one(bit(i)) << i
	}
	return w
}

func has(w uint32, i int) bool { return 0 <= i && i < 32 && unsigned(w).Bit(i) == 1 }

// expected is Do as the chapter's table says it, by exact integers and single bits.
func expected(op uint8, a, b uint32) (uint32, bool) {
	x, y, n := signed(a), signed(b), int(b%32)
	switch op {
	case api.AlAdd:
		return modulo(new(big.Int).Add(x, y)), true
	case api.AlSub:
		return modulo(new(big.Int).Sub(x, y)), true
	case api.AlMul:
		return modulo(new(big.Int).Mul(x, y)), true
	case api.AlDiv:
		if b == 0 {
			return 0, false
		}
		return modulo(new(big.Int).Quo(x, y)), true
	case api.AlRem:
		if b == 0 {
			return 0, false
		}
		return modulo(new(big.Int).Rem(x, y)), true
	case api.AlAnd:
		return bits(func(i int) bool { return has(a, i) && has(b, i) }), true
	case api.AlOr:
		return bits(func(i int) bool { return has(a, i) || has(b, i) }), true
	case api.AlXor:
		return bits(func(i int) bool { return has(a, i) != has(b, i) }), true
	case api.AlShl:
		return bits(func(i int) bool { return has(a, i-n) }), true
	case api.AlShr:
		return bits(func(i int) bool { return has(a, i+n) }), true
	case api.AlSar:
		return bits(func(i int) bool { return has(a, min(i+n, 31)) }), true
	case api.AlLt:
		return one(x.Cmp(y) < 0), true
	case api.AlLtu:
		return one(unsigned(a).Cmp(unsigned(b)) < 0), true
	case api.AlEq:
		return one(x.Cmp(y) == 0), true
	}
	return 0, false
}

// P1.1, the chapter's examples and edges.
func TestDoExamples(t *testing.T) {
	for _, x := range []struct {
		op         uint8
		a, b, want uint32
		ok         bool
	}{
		{api.AlAdd, 2, 3, 5, true},
		{api.AlAdd, 0xffffffff, 1, 0, true},
		{api.AlSub, 3, 5, 0xfffffffe, true},
		{api.AlMul, 0xffffffff, 0xffffffff, 1, true},
		{api.AlMul, 0x10000, 0x10000, 0, true},

		{api.AlDiv, 7, 2, 3, true},
		{api.AlDiv, 0xfffffff9, 2, 0xfffffffd, true},
		{api.AlDiv, 7, 0xfffffffe, 0xfffffffd, true},
		{api.AlDiv, 0xfffffff9, 0xfffffffe, 3, true},
		{api.AlDiv, 1, 0, 0, false},
		{api.AlDiv, 0, 0, 0, false},
		{api.AlDiv, 0x80000000, 0, 0, false},
		{api.AlDiv, 0x80000000, 0xffffffff, 0x80000000, true},
		{api.AlRem, 7, 2, 1, true},
		{api.AlRem, 0xfffffff9, 2, 0xffffffff, true},
		{api.AlRem, 7, 0xfffffffe, 1, true},
		{api.AlRem, 0xfffffff9, 0xfffffffe, 0xffffffff, true},
		{api.AlRem, 1, 0, 0, false},
		{api.AlRem, 0, 0, 0, false},
		{api.AlRem, 0x80000000, 0xffffffff, 0, true},

		{api.AlAnd, 12, 10, 8, true},
		{api.AlOr, 12, 10, 14, true},
		{api.AlXor, 12, 10, 6, true},

		{api.AlShl, 1, 31, 0x80000000, true},
		{api.AlShl, 1, 32, 1, true},
		{api.AlShl, 1, 33, 2, true},
		{api.AlShl, 1, 0xffffffff, 0x80000000, true},
		{api.AlShr, 0x80000000, 31, 1, true},
		{api.AlShr, 0x80000000, 32, 0x80000000, true},
		{api.AlShr, 0x80000000, 0xffffffe1, 0x40000000, true},
		{api.AlSar, 0x80000000, 31, 0xffffffff, true},
		{api.AlSar, 0x80000000, 0x20, 0x80000000, true},
		{api.AlSar, 0x80000000, 0x21, 0xc0000000, true},
		{api.AlSar, 0x7fffffff, 0x3e, 1, true},

		{api.AlLt, 0xffffffff, 1, 1, true},
		{api.AlLt, 1, 0xffffffff, 0, true},
		{api.AlLt, 5, 5, 0, true},
		{api.AlLt, 0x80000000, 0x7fffffff, 1, true},
		{api.AlLtu, 0xffffffff, 1, 0, true},
		{api.AlLtu, 1, 0xffffffff, 1, true},
		{api.AlLtu, 5, 5, 0, true},
		{api.AlEq, 7, 7, 1, true},
		{api.AlEq, 7, 8, 0, true},
		{api.AlEq, 0, 0x80000000, 0, true},
	} {
		if w, ok := word.Do(x.op, x.a, x.b); w != x.want || ok != x.ok {
			t.Errorf("Do(%d, %x, %x) = %x, %v; want %x, %v", x.op, x.a, x.b, w, ok, x.want, x.ok)
		}
	}
}

// P1.1: an operation's number is what the document says, whatever the constants say.
func TestDoNumbers(t *testing.T) {
	want := []uint32{3, 0xfffffff9, 0xfffffff6, 0, 0xfffffffe, 4, 0xffffffff, 0xfffffffb, 0xffffffc0, 0x07ffffff, 0xffffffff, 1, 0, 0}
	for op, w := range want {
		if got := do(t, uint8(op), 0xfffffffe, 5); got != w {
			t.Errorf("Do(%d, fffffffe, 5) = %x; want %x", op, got, w)
		}
	}
}

// P1.1 for all operations, over the edges.
func TestDoAsTheTableSays(t *testing.T) {
	for op := range noSuchOp {
		eachPair(func(a, b uint32) {
			w, ok := word.Do(op, a, b)
			if want, is := expected(op, a, b); w != want || ok != is {
				t.Errorf("Do(%d, %x, %x) = %x, %v; want %x, %v", op, a, b, w, ok, want, is)
			}
		})
	}
}

// P1.1, R1, R3: beside a false there is no word.
func TestDoNoSuchOperation(t *testing.T) {
	for op := int(noSuchOp); op < 256; op++ {
		for _, a := range words() {
			if w, ok := word.Do(uint8(op), a, 3); w != 0 || ok {
				t.Errorf("Do(%d, %x, 3) = %x, %v; want 0, false", op, a, w, ok)
			}
		}
	}
}

// P1.2, the chapter's examples, and each flag alone and with others.
func TestFlagsExamples(t *testing.T) {
	for _, x := range []struct {
		a, b uint32
		want uint8
	}{
		{3, 5, 9}, {5, 5, 4}, {0x80000000, 1, 2}, {5, 3, 0},
		{0, 0, 4}, {0x80000000, 0x80000000, 4}, {0xffffffff, 0xffffffff, 4},
		{0xffffffff, 1, 8}, {1, 0xffffffff, 1}, {0, 1, 9},
		{0x7fffffff, 0xffffffff, 11}, {0, 0x80000000, 11}, {0x80000000, 0x7fffffff, 2},
		{0x80000000, 0, 8}, {0xffffffff, 0x80000000, 0},
	} {
		if f := word.Flags(x.a, x.b); f != x.want {
			t.Errorf("Flags(%x, %x) = %d; want %d", x.a, x.b, f, x.want)
		}
	}
}

// P1.2, by the exact difference.
func TestFlagsAsTheChapterSays(t *testing.T) {
	eachPair(func(a, b uint32) {
		exact := new(big.Int).Sub(signed(a), signed(b))
		d := modulo(exact)
		low, high := big.NewInt(-1<<31), big.NewInt(1<<31-1)
		var want uint8
		if d >= 0x80000000 {
			want += 8
		}
		if d == 0 {
			want += 4
		}
		if exact.Cmp(low) < 0 || exact.Cmp(high) > 0 {
			want += 2
		}
		if unsigned(a).Cmp(unsigned(b)) < 0 {
			want++
		}
		if f := word.Flags(a, b); f != want {
			t.Errorf("Flags(%x, %x) = %d; want %d", a, b, f, want)
		}
	})
}

// P1.2, the chapter's examples.
func TestHoldsExamples(t *testing.T) {
	for _, x := range []struct {
		cond, flags uint8
		want        bool
	}{
		{api.CoLt, 9, true}, {api.CoLt, 2, true}, {api.CoGeu, 9, false}, {7, 0, false},
	} {
		if is := word.Holds(x.cond, x.flags); is != x.want {
			t.Errorf("Holds(%d, %d) = %v; want %v", x.cond, x.flags, is, x.want)
		}
	}
}

// P1.2 for all conditions and flags; a row has a condition, and a column the flags from 0 to 15. All higher bits of flags, and all other conditions, are tried too.
func TestHoldsAll(t *testing.T) {
	rows := []string{
		"yyyyyyyyyyyyyyyy",
		"....yyyy....yyyy",
		"yyyy....yyyy....",
		"..yy..yyyy..yy..",
		"yy..yy....yy..yy",
		".y.y.y.y.y.y.y.y",
		"y.y.y.y.y.y.y.y.",
	}
	for cond := range 256 {
		for flags := range 256 {
			want := cond < len(rows) && rows[cond][flags%16] == 'y'
			if is := word.Holds(uint8(cond), uint8(flags)); is != want {
				t.Errorf("Holds(%d, %d) = %v; want %v", cond, flags, is, want)
			}
		}
	}
}

// P1.3.
func TestConditionsAreComparisons(t *testing.T) {
	eachPair(func(a, b uint32) {
		f := word.Flags(a, b)
		for _, x := range []struct{ op, cond, opposite uint8 }{
			{api.AlEq, api.CoEq, api.CoNe},
			{api.AlLt, api.CoLt, api.CoGe},
			{api.AlLtu, api.CoLtu, api.CoGeu},
		} {
			want := do(t, x.op, a, b) == 1
			if word.Holds(x.cond, f) != want {
				t.Errorf("%x, %x: condition %d is not operation %d", a, b, x.cond, x.op)
			}
			if word.Holds(x.opposite, f) == want {
				t.Errorf("%x, %x: condition %d is not the opposite of %d", a, b, x.opposite, x.cond)
			}
		}
	})
}

// P1.4, of a quotient and a remainder.
func TestQuotientAndRemainder(t *testing.T) {
	eachPair(func(a, b uint32) {
		if b == 0 {
			return
		}
		whole := do(t, api.AlMul, do(t, api.AlDiv, a, b), b)
		if back := do(t, api.AlAdd, whole, do(t, api.AlRem, a, b)); back != a {
			t.Errorf("%x by %x: quotient and remainder give %x", a, b, back)
		}
	})
}

// P1.4, of what takes back what was done.
func TestTakenBack(t *testing.T) {
	eachPair(func(a, b uint32) {
		if back := do(t, api.AlSub, do(t, api.AlAdd, a, b), b); back != a {
			t.Errorf("%x plus and minus %x is %x", a, b, back)
		}
		if back := do(t, api.AlXor, do(t, api.AlXor, a, b), b); back != a {
			t.Errorf("%x twice xor %x is %x", a, b, back)
		}
	})
}
