package shape_test

import (
	"fmt"
	"math"
	"reflect"
	"slices"
	"strings"
	"testing"

	"muntin/api"
	"muntin/parse"
	"muntin/shape"
)

// program returns the program of a source that has the form.
func program(t *testing.T, l ...string) api.Prog {
	t.Helper()
	p, pos, e := parse.Parse(strings.Join(l, "\n"))
	if e != api.OK {
		t.Fatalf("Parse(%q) = .., %v, %d", l, pos, e)
	}
	return p
}

// one is a program with one function m, in which these lines stand.
func one(t *testing.T, l ...string) api.Prog {
	t.Helper()
	return program(t, append(append([]string{"heap 0", "thread m", "func m 0 {"}, l...), "}")...)
}

// short is a program for a report.
func short(p api.Prog) string {
	s := fmt.Sprint(p)
	return s[:min(len(s), 2000)]
}

func valid(t *testing.T, p api.Prog) {
	t.Helper()
	if pos, e := shape.Check(p); pos != (api.Pos{}) || e != api.OK {
		t.Fatalf("Check(%s) = %v, %d; want OK", short(p), pos, e)
	}
}

func wrong(t *testing.T, p api.Prog, f, b int) {
	t.Helper()
	want := api.Pos{Line: f, Col: b}
	if pos, e := shape.Check(p); pos != want || e != api.ErrShape {
		t.Fatalf("Check(%s) = %v, %d; want %v, ErrShape", short(p), pos, e, want)
	}
}

// P14.1: the chapter's examples, in their order.
func TestExamples(t *testing.T) {
	m := func(heap, regs int, l ...api.Ins) api.Prog {
		return api.Prog{Heap: heap, Threads: []int{0}, Funcs: []api.Func{{Name: "m", Regs: regs, Blocks: []api.Block{{Name: "a", Ins: l}}}}}
	}
	set, ret := api.Ins{Op: api.IrConst, N: 1}, api.Ins{Op: api.IrRet}
	valid(t, m(0, 1, set, ret))
	wrong(t, m(0, 1, ret), 0, 0)
	wrong(t, m(0, 2, set, ret), 0, -1)
	wrong(t, m(0, 1, set), 0, 0)
	wrong(t, m(-1, 1, set, ret), -1, -1)
	if api.ErrShape != 140 {
		t.Fatal(api.ErrShape)
	}
}

// P14.2: each Op; what an instruction does not have is not read, nor written.
func TestReadsWritesEnds(t *testing.T) {
	x := api.Ins{D: 1, A: 2, B: 3, N: 4, F: 5, Args: []int{6, 7, 6}, L1: 8, L2: 9}
	for op, want := range []struct {
		reads  []int
		writes bool
		ends   bool
	}{
		api.IrConst: {nil, true, false},
		api.IrAlu:   {[]int{2, 3}, true, false},
		api.IrMov:   {[]int{2}, true, false},
		api.IrLoad:  {[]int{2}, true, false},
		api.IrStore: {[]int{2, 3}, false, false},
		api.IrCall:  {[]int{6, 7, 6}, true, false},
		api.IrPrint: {[]int{2}, false, false},
		api.IrYield: {nil, false, false},
		api.IrJmp:   {nil, false, true},
		api.IrBr:    {[]int{2}, false, true},
		api.IrRet:   {[]int{2}, false, true},
		11:          {nil, false, false},
		12:          {nil, false, false},
		255:         {nil, false, false},
	} {
		x.Op = uint8(op)
		d := 0
		if want.writes {
			d = 1
		}
		if l := shape.Reads(x); !slices.Equal(l, want.reads) {
			t.Errorf("Reads(%v) = %v", x, l)
		}
		if n, ok := shape.Writes(x); n != d || ok != want.writes {
			t.Errorf("Writes(%v) = %d, %v", x, n, ok)
		}
		if ok := shape.Ends(x); ok != want.ends {
			t.Errorf("Ends(%v) = %v", x, ok)
		}
	}
}

// P14.2: registers are as they are: twice, below 0, any; N has no part in it.
func TestReadsAsTheyAre(t *testing.T) {
	for _, x := range []struct {
		x     api.Ins
		reads []int
		d     int
	}{
		{api.Ins{Op: api.IrAlu, N: 99, D: -5, A: 7, B: 7}, []int{7, 7}, -5},
		{api.Ins{Op: api.IrAlu, D: math.MaxInt, A: math.MinInt, B: 4096}, []int{math.MinInt, 4096}, math.MaxInt},
		{api.Ins{Op: api.IrCall, D: 3, F: -1}, nil, 3},
		{api.Ins{Op: api.IrCall, Args: []int{}}, nil, 0},
		{api.Ins{Op: api.IrCall, Args: []int{9, 8, 7, 6, 5, 4, 3, 2}}, []int{9, 8, 7, 6, 5, 4, 3, 2}, 0},
	} {
		if l := shape.Reads(x.x); !slices.Equal(l, x.reads) {
			t.Errorf("Reads(%v) = %v", x.x, l)
		}
		if d, ok := shape.Writes(x.x); d != x.d || !ok {
			t.Errorf("Writes(%v) = %d, %v", x.x, d, ok)
		}
	}
}

// two is a valid program of two functions, whose parts the tests change.
func two(t *testing.T) api.Prog {
	t.Helper()
	return program(t, "heap 4", "thread m",
		"func m 0 {", "a:", "const v0 1", "sub v1 v0 v0", "call v2 g v0 v1", "br v2 b a", "b:", "ret v1", "}",
		"func g 2 {", "a:", "ret v1", "b:", "ret v1", "}")
}

// changed holds Check against what it must return for the two functions with a change.
func changed(t *testing.T, line, col int, change func(p *api.Prog)) {
	t.Helper()
	p := two(t)
	valid(t, p)
	change(&p)
	wrong(t, p, line, col)
}

// P14.1, 1.: the heap, the functions, the threads.
func TestWhole(t *testing.T) {
	for _, n := range []int{0, 1, 1023, 1024} {
		p := two(t)
		p.Heap = n
		valid(t, p)
	}
	for _, n := range []int{-1, 1025, math.MinInt, math.MaxInt} {
		changed(t, -1, -1, func(p *api.Prog) { p.Heap = n })
	}
	for _, l := range [][]int{nil, {}, {0, 0, 0, 0, 0}, {-1}, {2}, {0, 2}, {0, -1}, {1}, {0, 0, 0, 1}, {math.MinInt}, {math.MaxInt}} {
		changed(t, -1, -1, func(p *api.Prog) { p.Threads = l })
	}
	p := two(t)
	p.Threads = []int{0, 0, 0, 0}
	valid(t, p)
	wrong(t, api.Prog{}, -1, -1)
	changed(t, -1, -1, func(p *api.Prog) { p.Funcs, p.Threads = nil, nil })
	changed(t, -1, -1, func(p *api.Prog) { p.Funcs = nil })
	changed(t, -1, -1, func(p *api.Prog) { p.Funcs[0].Args = -1 })
	changed(t, -1, -1, func(p *api.Prog) { p.Funcs[0].Args = 1 })
	p = two(t)
	p.Threads[0] = 1
	p.Funcs[1] = api.Func{Name: "g", Regs: 1, Blocks: []api.Block{{Name: "a", Ins: []api.Ins{{Op: api.IrConst}, {Op: api.IrRet}}}}}
	p.Funcs[0].Blocks[0].Ins[2].Args = nil
	valid(t, p)
}

// P14.1, 1.: 64 functions, and one more.
func TestManyFuncs(t *testing.T) {
	p := one(t, "a:", "const v0 1", "ret v0")
	for n := range 63 {
		f := p.Funcs[0]
		f.Name = "f" + strings.Repeat("x", n)
		p.Funcs = append(p.Funcs, f)
	}
	valid(t, p)
	p.Threads[0] = 63
	valid(t, p)
	more := p
	more.Funcs = append(slices.Clone(p.Funcs), p.Funcs[0])
	wrong(t, more, -1, -1)
	p.Funcs[63].Name = p.Funcs[62].Name
	wrong(t, p, 63, -1)
}

// badNames are no names.
func badNames() []string {
	return []string{"", "v1", "v4096", "7", "-7", "a b", "a:", "{", "}", "A ", " a", "a\n", "#", "\xff", strings.Repeat("a", 65)}
}

// P14.1, 2.: names of functions.
func TestFuncNames(t *testing.T) {
	for _, s := range badNames() {
		changed(t, 0, -1, func(p *api.Prog) { p.Funcs[0].Name = s })
		changed(t, 1, -1, func(p *api.Prog) { p.Funcs[1].Name = s })
	}
	changed(t, 1, -1, func(p *api.Prog) { p.Funcs[1].Name = "m" })
	for _, s := range []string{"a", "b", "v", "vx", "func", "ret", strings.Repeat("a", 64)} {
		p := two(t)
		p.Funcs[1].Name = s
		valid(t, p)
	}
}

// P14.1, 2.: numbers of arguments.
func TestArgs(t *testing.T) {
	for n := range 7 {
		p := two(t)
		p.Funcs[1].Args, p.Funcs[1].Regs = n, max(n, 2)
		p.Funcs[1].Blocks = []api.Block{{Name: "a", Ins: []api.Ins{{Op: api.IrConst, D: 1}, {Op: api.IrRet, A: 1}}}}
		p.Funcs[0].Blocks[0].Ins[2].Args = make([]int, n)
		valid(t, p)
		p.Funcs[0].Blocks[0].Ins[2].Args = make([]int, n+1)
		wrong(t, p, 0, 0)
	}
	for _, n := range []int{-1, 7, math.MinInt, math.MinInt + 1, math.MaxInt} {
		changed(t, 1, -1, func(p *api.Prog) { p.Funcs[1].Args = n })
		changed(t, 1, -1, func(p *api.Prog) { p.Funcs[1].Args, p.Funcs[1].Regs = n, n })
		changed(t, 1, -1, func(p *api.Prog) { p.Funcs[1].Args, p.Funcs[1].Regs = n, max(n, 2) })
	}
}

// P14.1, 2.: Regs, by the greatest register that instructions have, or by Args.
func TestRegs(t *testing.T) {
	for _, n := range []int{-1, 0, 2, 4, 4096, math.MinInt, math.MaxInt} {
		changed(t, 0, -1, func(p *api.Prog) { p.Funcs[0].Regs = n })
	}
	for _, x := range []struct {
		lines []string
		regs  int
	}{
		{[]string{"const v4 1", "ret v4"}, 5},
		{[]string{"const v4095 1", "ret v4095"}, 4096},
		{[]string{"const v1 1", "add v0 v1 v1", "ret v1"}, 2},
		{[]string{"const v0 1", "mov v63 v0", "ret v0"}, 64},
		{[]string{"const v0 1", "load v64 v0", "ret v0"}, 65},
		{[]string{"const v0 1", "call v9 m", "ret v0"}, 10},
		{[]string{"yield", "jmp a"}, 0},
	} {
		p := one(t, append([]string{"a:"}, x.lines...)...)
		if p.Funcs[0].Regs != x.regs {
			t.Fatal(x.lines, p.Funcs[0].Regs)
		}
		valid(t, p)
		for _, n := range []int{x.regs - 1, x.regs + 1} {
			p.Funcs[0].Regs = n
			wrong(t, p, 0, -1)
		}
	}
}

// P14.1, 2.: a register counts wherever it stands, also where it is wrong; a field that an instruction does not have does not.
func TestRegsOfInstructions(t *testing.T) {
	for _, x := range []struct {
		x    api.Ins
		regs int
		b    int
	}{
		{api.Ins{Op: api.IrPrint, A: 9}, 10, 1},
		{api.Ins{Op: api.IrStore, B: 9}, 10, 1},
		{api.Ins{Op: api.IrAlu, B: 9, N: 14}, 10, 1},
		{api.Ins{Op: api.IrCall, Args: []int{0, 9, 0}}, 10, 1},
		{api.Ins{Op: api.IrPrint, D: 9}, 3, 1},
		{api.Ins{Op: api.IrPrint, B: 9}, 3, 1},
		{api.Ins{Op: api.IrPrint, N: 9}, 3, 1},
		{api.Ins{Op: api.IrPrint, Args: []int{9}}, 3, 1},
		{api.Ins{Op: api.IrPrint, A: -9}, 3, 1},
		{api.Ins{Op: 11, D: 9, A: 9, B: 9}, 3, 1},
		{api.Ins{Op: api.IrPrint, A: 4096}, 4097, -1},
		{api.Ins{Op: api.IrPrint, A: math.MaxInt}, math.MinInt, -1},
		{api.Ins{Op: api.IrPrint, A: math.MaxInt}, math.MaxInt, -1},
		{api.Ins{Op: api.IrPrint, A: math.MaxInt}, 3, -1},
	} {
		changed(t, 0, x.b, func(p *api.Prog) {
			p.Funcs[0].Regs = x.regs
			p.Funcs[0].Blocks[1].Ins = append([]api.Ins{x.x}, p.Funcs[0].Blocks[1].Ins...)
		})
	}
	p := one(t, "a:", "yield", "jmp a")
	p.Funcs[0].Blocks[0].Ins[0] = api.Ins{Op: api.IrPrint, A: -9}
	wrong(t, p, 0, 0)
	p.Funcs[0].Regs = -8
	wrong(t, p, 0, -1)
}

// P14.1, 2.: blocks, as there must be one.
func TestNoBlocks(t *testing.T) {
	for _, l := range [][]api.Block{nil, {}} {
		changed(t, 1, -1, func(p *api.Prog) { p.Funcs[1].Blocks = l })
		changed(t, 0, -1, func(p *api.Prog) { p.Funcs[0] = api.Func{Name: "m", Blocks: l} })
	}
}

// P14.1, 3.: names of blocks, which functions may have too, and blocks of others.
func TestBlockNames(t *testing.T) {
	for _, s := range badNames() {
		changed(t, 0, 0, func(p *api.Prog) { p.Funcs[0].Blocks[0].Name = s })
		changed(t, 0, 1, func(p *api.Prog) { p.Funcs[0].Blocks[1].Name = s })
		changed(t, 1, 1, func(p *api.Prog) { p.Funcs[1].Blocks[1].Name = s })
	}
	changed(t, 0, 1, func(p *api.Prog) { p.Funcs[0].Blocks[1].Name = "a" })
	changed(t, 1, 1, func(p *api.Prog) { p.Funcs[1].Blocks[1].Name = "a" })
	for _, s := range []string{"m", "g", "ret", strings.Repeat("a", 64)} {
		p := two(t)
		p.Funcs[1].Blocks[1].Name = s
		valid(t, p)
	}
}

// P14.1, 3.: what ends a block stands at its end, and there only.
func TestBlockEnds(t *testing.T) {
	for _, x := range []api.Ins{{Op: api.IrJmp, L1: 1}, {Op: api.IrBr, L1: 1, L2: 1}, {Op: api.IrRet}} {
		p := two(t)
		p.Funcs[1].Blocks[0].Ins[0] = x
		valid(t, p)
		changed(t, 1, 0, func(p *api.Prog) { p.Funcs[1].Blocks[0].Ins = []api.Ins{x, {Op: api.IrRet, A: 1}} })
		changed(t, 1, 1, func(p *api.Prog) { p.Funcs[1].Blocks[1].Ins = []api.Ins{x, {Op: api.IrPrint, A: 1}} })
	}
	for _, x := range []api.Ins{{Op: api.IrConst, D: 1}, {Op: api.IrYield}, {Op: api.IrPrint, A: 1}, {Op: 11}, {Op: 255}} {
		changed(t, 0, 1, func(p *api.Prog) { p.Funcs[0].Blocks[1].Ins = []api.Ins{x} })
	}
	changed(t, 0, 1, func(p *api.Prog) { p.Funcs[0].Blocks[1].Ins = nil })
	changed(t, 0, 1, func(p *api.Prog) { p.Funcs[0].Blocks[1].Ins = []api.Ins{} })
}

// P14.1, 3.: Op, and N of an operation.
func TestOps(t *testing.T) {
	for _, op := range []uint8{11, 12, 128, 255} {
		changed(t, 0, 0, func(p *api.Prog) {
			p.Funcs[0].Blocks[0].Ins = append([]api.Ins{{Op: op}}, p.Funcs[0].Blocks[0].Ins...)
		})
	}
	for n := range uint32(14) {
		p := two(t)
		p.Funcs[0].Blocks[0].Ins[1].N = n
		valid(t, p)
	}
	for _, n := range []uint32{14, 15, 256, 1 << 31, math.MaxUint32} {
		changed(t, 0, 0, func(p *api.Prog) { p.Funcs[0].Blocks[0].Ins[1].N = n })
		p := two(t)
		p.Funcs[0].Blocks[0].Ins[0].N = n
		valid(t, p)
	}
}

// P14.1, 3.: registers below 0, in each place that has one.
func TestBelow(t *testing.T) {
	for _, n := range []int{-1, -64, math.MinInt} {
		for _, x := range []api.Ins{
			{Op: api.IrConst, D: n}, {Op: api.IrAlu, D: n}, {Op: api.IrAlu, A: n}, {Op: api.IrAlu, B: n}, {Op: api.IrMov, D: n}, {Op: api.IrMov, A: n},
			{Op: api.IrLoad, D: n}, {Op: api.IrLoad, A: n}, {Op: api.IrStore, A: n}, {Op: api.IrStore, B: n}, {Op: api.IrPrint, A: n},
			{Op: api.IrCall, F: 1, D: n, Args: []int{0, 0}}, {Op: api.IrCall, F: 1, Args: []int{n, 0}}, {Op: api.IrCall, F: 1, Args: []int{0, n}},
		} {
			changed(t, 1, 1, func(p *api.Prog) { p.Funcs[1].Blocks[1].Ins = append([]api.Ins{x}, p.Funcs[1].Blocks[1].Ins...) })
		}
		changed(t, 1, 1, func(p *api.Prog) { p.Funcs[1].Blocks[1].Ins = []api.Ins{{Op: api.IrPrint, A: 1}, {Op: api.IrBr, A: n}} })
		changed(t, 1, 1, func(p *api.Prog) {
			p.Funcs[1].Blocks[1].Ins = []api.Ins{{Op: api.IrPrint, A: 1}, {Op: api.IrRet, A: n}}
		})
	}
}

// P14.1, 3.: the functions that are called, and the blocks that are gone to.
func TestIndices(t *testing.T) {
	for _, n := range []int{-1, 2, math.MinInt, math.MaxInt} {
		changed(t, 0, 0, func(p *api.Prog) { p.Funcs[0].Blocks[0].Ins[2].F = n })
		changed(t, 0, 0, func(p *api.Prog) { p.Funcs[0].Blocks[0].Ins[3].L1 = n })
		changed(t, 0, 0, func(p *api.Prog) { p.Funcs[0].Blocks[0].Ins[3].L2 = n })
		changed(t, 1, 0, func(p *api.Prog) { p.Funcs[1].Blocks[0].Ins[0] = api.Ins{Op: api.IrJmp, L1: n} })
	}
	changed(t, 0, 0, func(p *api.Prog) { p.Funcs[0].Blocks[0].Ins[2].F = 0 })
	changed(t, 0, 0, func(p *api.Prog) { p.Funcs[0].Blocks[0].Ins[2].Args = nil })
	changed(t, 0, 0, func(p *api.Prog) { p.Funcs[0].Blocks[0].Ins[2].Args = []int{0} })
	changed(t, 0, 0, func(p *api.Prog) { p.Funcs[0].Blocks[0].Ins[2].Args = []int{0, 1, 1} })
	p := two(t)
	p.Funcs[0].Blocks[0].Ins[2] = api.Ins{Op: api.IrCall, D: 2, Args: []int{}}
	valid(t, p)
}

// P14.1, 3.: an instruction that has a field which it should not have is wrong; each field, for each Op.
func TestNoOtherFields(t *testing.T) {
	for op, has := range strings.Fields("DN DABN DA DA AB DFP A - L ALM A") {
		base := api.Ins{Op: uint8(op)}
		if op == int(api.IrCall) {
			base.F, base.Args = 1, []int{0, 1}
		}
		for field, set := range map[string]func(x *api.Ins){
			"D": func(x *api.Ins) { x.D = 1 }, "A": func(x *api.Ins) { x.A = 1 }, "B": func(x *api.Ins) { x.B = 1 }, "N": func(x *api.Ins) { x.N = 1 },
			"F": func(x *api.Ins) { x.F = 1 }, "P": func(x *api.Ins) { x.Args = []int{0, 0} }, "L": func(x *api.Ins) { x.L1 = 1 }, "M": func(x *api.Ins) { x.L2 = 1 },
		} {
			x := base
			set(&x)
			p := two(t)
			l := []api.Ins{x}
			if !shape.Ends(x) {
				l = append(l, api.Ins{Op: api.IrRet, A: 1})
			}
			p.Funcs[1].Blocks[1].Ins = l
			if strings.Contains(has, field) {
				valid(t, p)
			} else {
				wrong(t, p, 1, 1)
			}
		}
	}
}

// P14.1, 4.: registers that some path does not assign.
func TestPaths(t *testing.T) {
	valid(t, one(t, "a:", "const v0 1", "br v0 b c", "b:", "const v1 2", "jmp d", "c:", "mov v1 v0", "jmp d", "d:", "ret v1"))
	wrong(t, one(t, "a:", "const v0 1", "br v0 b c", "b:", "const v1 2", "jmp d", "c:", "jmp d", "d:", "ret v1"), 0, 3)
	wrong(t, one(t, "a:", "const v0 1", "br v0 b c", "b:", "jmp d", "c:", "const v1 2", "jmp d", "d:", "ret v1"), 0, 3)
	valid(t, one(t, "a:", "const v0 1", "jmp b", "b:", "add v0 v0 v0", "br v0 b c", "c:", "ret v0"))
	wrong(t, one(t, "a:", "const v0 1", "jmp b", "b:", "br v0 c d", "c:", "ret v1", "d:", "const v1 1", "jmp b"), 0, 2)
	valid(t, one(t, "a:", "const v0 1", "jmp c", "b:", "ret v0", "c:", "jmp b"))
	wrong(t, one(t, "a:", "yield", "jmp c", "b:", "ret v0", "c:", "jmp b"), 0, 1)
	valid(t, one(t, "a:", "yield", "jmp c", "b:", "ret v0", "c:", "const v0 1", "jmp b"))
	wrong(t, one(t, "a:", "const v0 1", "br v0 a b", "b:", "print v0", "print v1", "const v1 1", "jmp b"), 0, 1)
	wrong(t, one(t, "a:", "const v0 1", "br v0 b b", "b:", "ret v1"), 0, 1)
	valid(t, one(t, "a:", "const v0 1", "br v0 b b", "b:", "ret v0"))
}

// P14.1, 4.: an instruction reads before it writes, and its own write is no earlier one.
func TestReadsFirst(t *testing.T) {
	for _, s := range []string{"add v1 v1 v0", "add v1 v0 v1", "mov v1 v1", "load v1 v1", "call v1 g v1"} {
		p := program(t, "heap 0", "thread m", "func m 0 {", "a:", "const v0 1", s, "ret v0", "}", "func g 1 {", "a:", "ret v0", "}")
		wrong(t, p, 0, 0)
	}
	for _, s := range []string{"ret v1", "br v1 a a", "print v1\nret v0", "store v1 v0\nret v0", "store v0 v1\nret v0", "sub v0 v0 v1\nret v0", "sub v0 v1 v0\nret v0", "call v0 g v1\nret v0", "mov v0 v1\nret v0", "load v0 v1\nret v0"} {
		rest := "}\nfunc g 1 {\na:\nret v0"
		wrong(t, one(t, "a:", "const v0 1", s, rest), 0, 0)
		valid(t, one(t, "a:", "const v0 1", "const v1 1", s, rest))
	}
}

// P14.1, 4.: arguments are assigned, in their own function; a call assigns nothing of the other one.
func TestArguments(t *testing.T) {
	g := []string{"func g 3 {", "a:", "add v0 v1 v2", "ret v0", "}"}
	m := []string{"heap 0", "thread m", "func m 0 {", "a:", "const v0 1", "call v1 g v0 v0 v0", "ret v1", "}"}
	valid(t, program(t, append(m, g...)...))
	g[2] = "add v0 v1 v3"
	wrong(t, program(t, append(m, g...)...), 1, 0)
	m[6] = "ret v2"
	wrong(t, program(t, append(m, g...)...), 0, 0)
}

// P14.1, 4., P14.4: a block to which no path leads can read anything, and leads nowhere.
func TestUnreached(t *testing.T) {
	valid(t, one(t, "a:", "const v0 1", "ret v0", "b:", "ret v7"))
	valid(t, one(t, "a:", "const v0 1", "jmp c", "b:", "print v7", "jmp c", "c:", "ret v0"))
	valid(t, one(t, "a:", "const v0 1", "ret v0", "b:", "print v3", "br v7 b c", "c:", "print v5", "jmp b"))
	valid(t, one(t, "a:", "yield", "const v7 1", "jmp c", "b:", "jmp c", "c:", "ret v7"))
}

// P14.1, 4.: the first position counts, not the first path that comes to one.
func TestFirstBlock(t *testing.T) {
	wrong(t, one(t, "a:", "const v0 1", "br v0 c b", "b:", "jmp d", "c:", "ret v1", "d:", "ret v1"), 0, 2)
	wrong(t, one(t, "a:", "const v0 1", "jmp d", "b:", "ret v1", "c:", "jmp b", "d:", "print v1", "jmp c"), 0, 1)
	wrong(t, one(t, "a:", "const v0 1", "br v0 b c", "b:", "print v0", "jmp a", "c:", "print v0", "print v64", "ret v200"), 0, 2)
	wrong(t, one(t, "a:", "const v0 1", "br v0 b c", "b:", "print v200", "ret v0", "c:", "print v64", "ret v0"), 0, 1)
}

// P14.1: 1. comes before 2., 2. before 3., 3. before 4., for all functions; and functions and blocks in their order.
func TestOrder(t *testing.T) {
	head := func(p *api.Prog) { p.Funcs[1].Name = "" }
	block := func(p *api.Prog) { p.Funcs[0].Blocks[1].Name = "" }
	path := func(p *api.Prog) { p.Funcs[0].Blocks[0].Ins[0].D = 1 }
	changed(t, 0, 0, path)
	changed(t, 0, 1, func(p *api.Prog) { path(p); block(p) })
	changed(t, 1, -1, func(p *api.Prog) { path(p); block(p); head(p) })
	changed(t, -1, -1, func(p *api.Prog) { path(p); block(p); head(p); p.Heap = -1 })
	changed(t, 1, 1, func(p *api.Prog) { path(p); p.Funcs[1].Blocks[1].Ins = nil })
	changed(t, 1, 0, func(p *api.Prog) { path(p); p.Funcs[1].Blocks[1].Ins = nil; p.Funcs[1].Blocks[0].Ins = nil })
	changed(t, 0, 1, func(p *api.Prog) { block(p); p.Funcs[1].Blocks[0].Ins = nil })
	changed(t, 0, -1, func(p *api.Prog) { head(p); p.Funcs[0].Regs = 4 })
	changed(t, 1, -1, func(p *api.Prog) { block(p); p.Funcs[1].Regs = 3 })
	changed(t, -1, -1, func(p *api.Prog) { p.Threads[0] = 2; p.Funcs[0].Name = "" })
	p := program(t, "heap 0", "thread m", "func m 0 {", "a:", "ret v0", "}", "func g 0 {", "a:", "ret v0", "}")
	wrong(t, p, 0, 0)
	p.Funcs[0].Blocks[0].Ins[0] = api.Ins{Op: api.IrJmp}
	p.Funcs[0].Regs = 0
	wrong(t, p, 1, 0)
}

// P14.1: many registers, of which one only is not assigned on one path only; each in turn.
func TestEachRegister(t *testing.T) {
	for missing := range 131 {
		p := one(t, "a:", "yield", "jmp b", "b:", "ret v130", "c:", "jmp b")
		var all []api.Ins
		for r := 1; r < 131; r++ {
			all = append(all, api.Ins{Op: api.IrConst, D: r})
		}
		jump := api.Ins{Op: api.IrJmp, L1: 1}
		blocks := p.Funcs[0].Blocks
		blocks[0].Ins = []api.Ins{{Op: api.IrConst}, {Op: api.IrBr, L1: 2, L2: 3}}
		blocks[2].Ins = append(slices.Clone(all), jump)
		less := slices.DeleteFunc(slices.Clone(all), func(x api.Ins) bool { return x.D == missing })
		blocks = append(blocks, api.Block{Name: "d", Ins: append(less, jump)})
		blocks[1].Ins = []api.Ins{{Op: api.IrRet, A: missing}}
		p.Funcs[0].Blocks = blocks
		if missing == 0 {
			valid(t, p)
			continue
		}
		wrong(t, p, 0, 1)
		blocks[1].Ins[0].A = 131 - missing
		if missing*2 != 131 {
			valid(t, p)
		}
	}
}

// P14.1, R1: many blocks, each of which goes to the one before it, and a register that the last one assigns.
func TestManyBlocks(t *testing.T) {
	const many = 20000
	name := func(i int) string {
		return "b" + strings.Repeat("x", i%50) + string(rune('a'+i/50%26)) + string(rune('a'+i/1300))
	}
	p := one(t, "a:", "const v1 1", "jmp a")
	for i := range many {
		p.Funcs[0].Blocks = append(p.Funcs[0].Blocks, api.Block{Name: name(i), Ins: []api.Ins{{Op: api.IrMov, D: 1, A: 1}, {Op: api.IrBr, A: 1, L1: max(i, 1), L2: i + 1}}})
	}
	p.Funcs[0].Blocks[0].Ins[1].L1 = many
	valid(t, p)
	p.Funcs[0].Blocks[1].Ins[0].A = 0
	wrong(t, p, 0, 1)
	p.Funcs[0].Blocks[0].Ins[0].D = 0
	wrong(t, p, 0, many)
}

// P14.1, R1: many registers, assigned in turns, with many blocks.
func TestManyRegisters(t *testing.T) {
	p := one(t, "a:", "const v0 1", "jmp a")
	blocks := p.Funcs[0].Blocks
	for r := 1; r < 4096; r++ {
		b := len(blocks)
		blocks = append(blocks,
			api.Block{Name: "b" + parse.Line(p, 0, api.Ins{Op: api.IrRet, A: r})[4:], Ins: []api.Ins{{Op: api.IrBr, L1: b + 1, L2: min(b+2, 2*4095)}}},
			api.Block{Name: "c" + parse.Line(p, 0, api.Ins{Op: api.IrRet, A: r})[4:], Ins: []api.Ins{{Op: api.IrConst, D: r}, {Op: api.IrJmp, L1: min(b+2, 2*4095)}}})
	}
	blocks[0].Ins[1].L1 = 1
	p.Funcs[0].Blocks, p.Funcs[0].Regs = blocks, 4096
	valid(t, p)
	end := &blocks[len(blocks)-1]
	end.Ins = append(end.Ins[:1:1], api.Ins{Op: api.IrRet, A: 4095})
	valid(t, p)
	end.Ins[1].A = 2000
	wrong(t, p, 0, len(blocks)-1)
}

// R5: arguments are not changed, and not kept; Reads returns new memory.
func TestArgumentsAsTheyWere(t *testing.T) {
	args := []int{4, 5, 6}
	x := api.Ins{Op: api.IrCall, Args: args[:2]}
	l := shape.Reads(x)
	l[0], l = 9, append(l, 9)
	if !slices.Equal(args, []int{4, 5, 6}) || len(l) != 3 {
		t.Fatal(args, l)
	}
	if l := shape.Reads(x); !slices.Equal(l, []int{4, 5}) {
		t.Fatal(l)
	}
	p := two(t)
	valid(t, p)
	valid(t, p)
	if !reflect.DeepEqual(p, two(t)) {
		t.Fatal(p)
	}
}
