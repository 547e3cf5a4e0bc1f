package parse_test

import (
	"fmt"
	"math"
	"math/rand"
	"reflect"
	"strings"
	"testing"

	"muntin/api"
	"muntin/parse"
)

// parses holds what Parse returns against a program.
func parses(t *testing.T, src string, want api.Prog) {
	t.Helper()
	if p, pos, e := parse.Parse(src); !reflect.DeepEqual(p, want) || pos != (api.Pos{}) || e != api.OK {
		t.Fatalf("Parse(%.2000q) = %v, %v, %d; want %v", src, p, pos, e, want)
	}
}

// valid returns the program of a source that has no error.
func valid(t *testing.T, src string) api.Prog {
	t.Helper()
	p, pos, e := parse.Parse(src)
	if pos != (api.Pos{}) || e != api.OK {
		t.Fatalf("Parse(%.2000q) = .., %v, %d", src, pos, e)
	}
	return p
}

// fails is for sources with an error.
func fails(t *testing.T, src string, errno api.Errno, line, col int) {
	t.Helper()
	want := api.Pos{Line: line, Col: col}
	if p, pos, e := parse.Parse(src); !reflect.DeepEqual(p, api.Prog{}) || pos != want || e != errno {
		t.Fatalf("Parse(%.2000q) = %v, %v, %d; want %v, %d", src, p, pos, e, want, errno)
	}
}

func wrong(t *testing.T, src string, line, col int) {
	t.Helper()
	fails(t, src, api.ErrParse, line, col)
}

func prints(t *testing.T, p api.Prog, want string) {
	t.Helper()
	if s := parse.Print(p); s != want {
		t.Fatalf("Print(%v) = %q; want %q", p, s, want)
	}
}

func lineIs(t *testing.T, p api.Prog, f int, x api.Ins, want string) {
	t.Helper()
	if s := parse.Line(p, f, x); s != want {
		t.Fatalf("Line(%v, %d, %v) = %q; want %q", p, f, x, s, want)
	}
}

// goesRound holds the program of a source's source against it.
func goesRound(t *testing.T, p api.Prog) {
	t.Helper()
	src := parse.Print(p)
	if len(src) > 65536 {
		fails(t, src, api.ErrLong, 0, 0)
		return
	}
	parses(t, src, p)
	prints(t, valid(t, src), src)
}

// lines joins lines to a source.
func lines(l ...string) string { return strings.Join(l, "\n") + "\n" }

// one is a source with one function m of one block a.
func one(l ...string) string {
	return lines("heap 0", "thread m", "func m 0 {", "a:") + strings.Join(append(l, "}"), "\n")
}

// P13.1: the chapter's examples, in their order.
func TestExamples(t *testing.T) {
	s := []string{"heap 2", "thread m", "func m 0 {", "a:", "const v1 7", "ret v1", "}"}
	parses(t, lines(s...), api.Prog{Heap: 2, Threads: []int{0}, Funcs: []api.Func{
		{Name: "m", Regs: 2, Blocks: []api.Block{{Name: "a", Ins: []api.Ins{{Op: api.IrConst, D: 1, N: 7}, {Op: api.IrRet, A: 1}}}}},
	}})
	with := func(i int, l ...string) string {
		return lines(append(append(append([]string{}, s[:i]...), l...), s[i+1:]...)...)
	}
	wrong(t, "", 1, 1)
	wrong(t, with(0, "heap 1025"), 1, 6)
	wrong(t, lines(s[:6]...), 6, 7)
	wrong(t, with(1, "thread n"), 2, 8)
	wrong(t, with(5, "ret 1"), 6, 5)
	wrong(t, with(3, "a:", "a:"), 5, 1)
}

// P13.1: each instruction, with the numbers of its Op and its operation.
func TestInstructions(t *testing.T) {
	for line, x := range map[string]api.Ins{
		"const v7 0":                        {Op: 0, D: 7},
		"const v7 4294967295":               {Op: 0, D: 7, N: 4294967295},
		"const v7 -1":                       {Op: 0, D: 7, N: 4294967295},
		"const v0 -2147483648":              {Op: 0, N: 2147483648},
		"add v1 v2 v3":                      {Op: 1, N: 0, D: 1, A: 2, B: 3},
		"sub v1 v2 v3":                      {Op: 1, N: 1, D: 1, A: 2, B: 3},
		"mul v1 v2 v3":                      {Op: 1, N: 2, D: 1, A: 2, B: 3},
		"div v1 v2 v3":                      {Op: 1, N: 3, D: 1, A: 2, B: 3},
		"rem v1 v2 v3":                      {Op: 1, N: 4, D: 1, A: 2, B: 3},
		"and v1 v2 v3":                      {Op: 1, N: 5, D: 1, A: 2, B: 3},
		"or v1 v2 v3":                       {Op: 1, N: 6, D: 1, A: 2, B: 3},
		"xor v1 v2 v3":                      {Op: 1, N: 7, D: 1, A: 2, B: 3},
		"shl v1 v2 v3":                      {Op: 1, N: 8, D: 1, A: 2, B: 3},
		"shr v1 v2 v3":                      {Op: 1, N: 9, D: 1, A: 2, B: 3},
		"sar v1 v2 v3":                      {Op: 1, N: 10, D: 1, A: 2, B: 3},
		"lt v1 v2 v3":                       {Op: 1, N: 11, D: 1, A: 2, B: 3},
		"ltu v1 v2 v3":                      {Op: 1, N: 12, D: 1, A: 2, B: 3},
		"eq v1 v2 v3":                       {Op: 1, N: 13, D: 1, A: 2, B: 3},
		"mov v4 v5":                         {Op: 2, D: 4, A: 5},
		"load v4 v5":                        {Op: 3, D: 4, A: 5},
		"store v4 v5":                       {Op: 4, A: 4, B: 5},
		"call v3 n":                         {Op: 5, D: 3, F: 1},
		"call v3 m v9":                      {Op: 5, D: 3, Args: []int{9}},
		"call v3 n v9 v8 v7 v6 v5 v4":       {Op: 5, D: 3, F: 1, Args: []int{9, 8, 7, 6, 5, 4}},
		"call v4095 n v4095 v0 v0 v0 v4094": {Op: 5, D: 4095, F: 1, Args: []int{4095, 0, 0, 0, 4094}},
		"print v6":                          {Op: 6, A: 6},
		"yield":                             {Op: 7},
		"jmp b":                             {Op: 8, L1: 1},
		"br v8 a b":                         {Op: 9, A: 8, L2: 1},
		"br v8 b a":                         {Op: 9, A: 8, L1: 1},
		"br v8 b b":                         {Op: 9, A: 8, L1: 1, L2: 1},
		"ret v9":                            {Op: 10, A: 9},
	} {
		p := valid(t, one(line, "b:", line, "}", "func n 0 {", "a:"))
		want := []api.Block{{Name: "a", Ins: []api.Ins{x}}, {Name: "b", Ins: []api.Ins{x}}}
		if !reflect.DeepEqual(p.Funcs[0].Blocks, want) {
			t.Fatalf("%s: %v; want %v", line, p.Funcs[0].Blocks, want)
		}
	}
}

// P13.1: numbers and counts at their limits, and beyond them.
func TestLimits(t *testing.T) {
	for n := range 1030 {
		src := strings.Replace(one("ret v0"), "heap 0", fmt.Sprint("heap ", n), 1)
		if n > 1024 {
			wrong(t, src, 1, 6)
		} else if p := valid(t, src); p.Heap != n {
			t.Fatal(p.Heap, n)
		}
	}
	for _, s := range []string{"-1", "-2147483648", "4294967295", "2147483648", "65536", "4096", "1280"} {
		wrong(t, strings.Replace(one("ret v0"), "heap 0", "heap "+s, 1), 1, 6)
		wrong(t, strings.Replace(one("ret v0"), "m 0", "m "+s, 1), 3, 8)
	}
	for n := range 10 {
		threads := "heap 0\n" + strings.Repeat("thread m\n", n)
		src := threads + lines("func m 0 {", "a:", "}")
		switch {
		case n == 0:
			wrong(t, src, 2, 1)
		case n > 4:
			wrong(t, src, 6, 1)
			wrong(t, threads, 6, 1)
		default:
			if p := valid(t, src); !reflect.DeepEqual(p.Threads, make([]int, n)) {
				t.Fatal(p)
			}
			wrong(t, threads, n+1, 9)
		}
	}
	for n := range 12 {
		src := strings.Replace(one("ret v0"), "m 0", fmt.Sprint("m ", n), 1)
		if n > 6 {
			wrong(t, src, 3, 8)
		} else if p := valid(t, src); p.Funcs[0].Args != n || p.Funcs[0].Regs != max(n, 1) {
			t.Fatal(p, n)
		}
	}
	for n := range 12 {
		src := one("call v1 m" + strings.Repeat(" v7", n))
		if n > 6 {
			wrong(t, src, 5, 29)
		} else if p := valid(t, src); len(p.Funcs[0].Blocks[0].Ins[0].Args) != n {
			t.Fatal(p, n)
		}
	}
}

// P13.1: from 1 to 64 functions; after them nothing, whatever it is.
func TestManyFunctions(t *testing.T) {
	src := "heap 0\nthread f63\n"
	wrong(t, src, 2, 11)
	for n := range 70 {
		src += lines(fmt.Sprintf("func f%d 0 {", n), "a:", "  jmp a", "}")
		switch {
		case n < 63:
			wrong(t, src, 2, 8)
		case n == 63:
			p := valid(t, src)
			if len(p.Funcs) != 64 || p.Threads[0] != 63 || p.Funcs[63].Name != "f63" || p.Funcs[62].Name != "f62" {
				t.Fatal(p)
			}
			for _, s := range []string{"func", "func f 0 {", "}", "x", "x:", "1", "{", "v0", "thread f1"} {
				wrong(t, src+"\n# end\n "+s, 261, 2)
			}
			valid(t, src+"\n# end\n ")
		default:
			wrong(t, src, 259, 1)
		}
	}
	same := "heap 0\nthread f\n" + strings.Repeat("func f 0 {\na:\n}\n", 64)
	wrong(t, same, 6, 6)
	wrong(t, same+"func f 0 {\na:\n}\n", 195, 1)
}

// P13.1: many blocks, and many instructions.
func TestManyBlocks(t *testing.T) {
	src, want := "", []api.Block{{Name: "a"}}
	for n := range 3000 {
		src += fmt.Sprintf("jmp b%d\nb%d:\n", 2999-n, n)
		want[n].Ins = []api.Ins{{Op: api.IrJmp, L1: 3000 - n}}
		want = append(want, api.Block{Name: fmt.Sprint("b", n)})
	}
	if p := valid(t, one(src)); !reflect.DeepEqual(p.Funcs[0].Blocks, want) {
		t.Fatal(p)
	}
	if p := valid(t, one(strings.Repeat("yield\n", 10000))); len(p.Funcs[0].Blocks[0].Ins) != 10000 {
		t.Fatal(len(p.Funcs[0].Blocks[0].Ins))
	}
}

// P13.1: Regs is one more than the greatest register, wherever it is, and at least ARGS.
func TestRegs(t *testing.T) {
	for line, regs := range map[string]int{
		"":                    0,
		"yield":               0,
		"jmp a":               0,
		"const v0 9":          1,
		"const v5 9":          6,
		"add v9 v1 v2":        10,
		"add v1 v9 v2":        10,
		"add v1 v2 v9":        10,
		"mov v9 v1":           10,
		"mov v1 v9":           10,
		"load v9 v1":          10,
		"load v1 v9":          10,
		"store v9 v1":         10,
		"store v1 v9":         10,
		"call v9 m v1":        10,
		"call v1 m v1 v9 v2":  10,
		"call v1 m v9":        10,
		"call v0 m":           1,
		"print v9":            10,
		"br v9 a a":           10,
		"ret v4095":           4096,
		"ret v9\nret v3":      10,
		"ret v9\nb:\nret v11": 12,
		"ret v12\nb:\nyield":  13,
	} {
		for _, args := range []int{0, 1, 5, 6} {
			src := lines("heap 0", "thread m", "func k 0 {", "a:", "ret v77", "}", fmt.Sprintf("func m %d {", args), "a:", line, "}", "func n 3 {", "a:", "}")
			p := valid(t, src)
			if p.Funcs[0].Regs != 78 || p.Funcs[1].Regs != max(regs, args) || p.Funcs[2].Regs != 3 {
				t.Fatalf("%q: %v; want %d", src, p, max(regs, args))
			}
		}
	}
}

// P13.1: any name can be any word that layer 12 calls a name, also those that begin a line.
func TestWordsAsNames(t *testing.T) {
	for _, s := range []string{"heap", "thread", "func", "const", "add", "sub", "mul", "div", "rem", "and", "or", "xor", "shl", "shr", "sar", "lt", "ltu", "eq", "mov", "load", "store", "call", "print", "yield", "jmp", "br", "ret", "v", "_", "Add", strings.Repeat("n", 64)} {
		parses(t, lines("heap 0", "thread "+s, "func "+s+" 0 {", s+":", "call v0 "+s, "jmp "+s, "br v0 "+s+" "+s, "}"), api.Prog{Threads: []int{0}, Funcs: []api.Func{
			{Name: s, Regs: 1, Blocks: []api.Block{{Name: s, Ins: []api.Ins{{Op: api.IrCall}, {Op: api.IrJmp}, {Op: api.IrBr}}}}},
		}})
	}
	// Where a name must be, no other kind of token is one; and where no name must be, a name isn't.
	for _, s := range []string{"v0", "5", "-5", "{", "}", "m:"} {
		wrong(t, lines("heap 0", "thread "+s), 2, 8)
		wrong(t, lines("heap 0", "thread m", "func "+s+" 0 {"), 3, 6)
		wrong(t, one("call v0 "+s), 5, 9)
		wrong(t, one("jmp "+s), 5, 5)
		wrong(t, one("br v0 "+s+" a"), 5, 7)
		wrong(t, one("br v0 a "+s), 5, 9)
	}
	for _, s := range []string{"heap", "thread", "func", "nop", "CONST", "Add", "adds", "ad", "neg", "v", "_", "const_", strings.Repeat("n", 64)} {
		wrong(t, one("yield", "  "+s+" v0 v1 v2"), 6, 3)
	}
}

// P13.1: names of what is before, behind, and inside; names of blocks belong to their function alone.
func TestNames(t *testing.T) {
	p := valid(t, lines("heap 0", "thread c", "thread a", "thread b", "thread c",
		"func a 0 {", "x:", "call v0 c", "call v0 b", "call v0 a", "br v0 y x", "y:", "br v0 x z", "z:", "jmp y", "}",
		"func b 0 {", "z:", "br v0 y z", "y:", "call v0 c", "}",
		"func c 0 {", "a:", "jmp a", "call v0 a", "}"))
	if !reflect.DeepEqual(p.Threads, []int{2, 0, 1, 2}) {
		t.Fatal(p.Threads)
	}
	want := [][][]api.Ins{
		{{{Op: 5, F: 2}, {Op: 5, F: 1}, {Op: 5}, {Op: 9, L1: 1}}, {{Op: 9, L2: 2}}, {{Op: 8, L1: 1}}},
		{{{Op: 9, L1: 1}}, {{Op: 5, F: 2}}},
		{{{Op: 8}, {Op: 5}}},
	}
	for i, f := range p.Funcs {
		for j, b := range f.Blocks {
			if !reflect.DeepEqual(b.Ins, want[i][j]) {
				t.Fatal(f.Name, b.Name, b.Ins)
			}
		}
	}
}

// P13.1: names that are wrong, each alone.
func TestWrongNames(t *testing.T) {
	two := func(first, second string) string {
		return lines("heap 0", "thread m", "func m 0 {", "a:", first, "}", "func n 0 {", "b:", second, "}")
	}
	valid(t, two("yield", "yield"))
	wrong(t, two("jmp b", "yield"), 5, 5)
	wrong(t, two("jmp m", "yield"), 5, 5)
	wrong(t, two("br v0 b a", "yield"), 5, 7)
	wrong(t, two("br v0 a b", "yield"), 5, 9)
	wrong(t, two("br v0 b b", "yield"), 5, 7)
	wrong(t, two("yield", "jmp a"), 9, 5)
	wrong(t, two("yield", "br v0 b a"), 9, 9)
	wrong(t, two("call v0 a", "yield"), 5, 9)
	wrong(t, two("call v0 M", "yield"), 5, 9)
	wrong(t, two("yield", "call v0 b v1"), 9, 9)
	wrong(t, two("yield", "b:"), 9, 1)
	wrong(t, two("b:\nyield\na:", "yield"), 7, 1)
	wrong(t, strings.Replace(two("yield", "yield"), "func n", "func m", 1), 7, 6)
	wrong(t, strings.Replace(two("yield", "yield"), "thread m", "thread m\nthread a", 1), 3, 8)
	wrong(t, strings.Replace(two("yield", "yield"), "thread m", "thread a\nthread b", 1), 2, 8)
}

// P13.1: of several names that are wrong, the first token counts.
func TestFirstWrongName(t *testing.T) {
	l := []struct {
		bad, good string
		line, col int
	}{
		{"thread x", "thread m", 2, 8}, {"thread y", "thread m", 3, 8}, {"func m 0 {", "func m 0 {", 0, 0},
		{"a:", "a:", 0, 0}, {"call v0 x", "call v0 m", 6, 9}, {"jmp x", "jmp b", 7, 5}, {"br v0 y z", "br v0 a b", 8, 7}, {"br v0 b z", "br v0 b a", 9, 9},
		{"b:", "b:", 0, 0}, {"a:", "c:", 11, 1}, {"jmp y", "jmp a", 12, 5}, {"a:", "d:", 13, 1}, {"}", "}", 0, 0},
		{"func m 0 {", "func n 0 {", 15, 6}, {"b:", "b:", 0, 0}, {"jmp c", "jmp b", 17, 5}, {"b:", "a:", 18, 1}, {"call v0 x", "call v0 m", 19, 9}, {"}", "}", 0, 0},
	}
	for from := range len(l) + 1 {
		src, line, col := "heap 0\n", 0, 0
		for i, x := range l {
			if i < from {
				src += x.good + "\n"
				continue
			}
			src += x.bad + "\n"
			if line == 0 {
				line, col = x.line, x.col
			}
		}
		switch {
		case line > 0:
			wrong(t, src, line, col)
		case from == len(l):
			valid(t, src)
		}
	}
}

// P13.1, R2: what is too long comes before words without a kind; these before tokens without the form; these before wrong names.
func TestOrderOfErrors(t *testing.T) {
	const names = "heap 0\nthread x\nfunc m 0 {\na:\na:\njmp y\n"
	wrong(t, names+"}\nfunc m 0 {\na:\n}", 2, 8)
	wrong(t, names+"}\n}", 8, 1)
	wrong(t, names, 6, 6)
	wrong(t, names+"nop\n", 7, 1)
	fails(t, names+"nop ?", api.ErrLex, 7, 5)
	fails(t, "}\n?\n", api.ErrLex, 2, 1)
	fails(t, "thread v4096", api.ErrLex, 1, 8)
	fails(t, "? }"+strings.Repeat("\n", 65534), api.ErrLong, 0, 0)
	fails(t, "? }"+strings.Repeat("\n", 65533), api.ErrLex, 1, 1)
	fails(t, strings.Repeat("}", 65537), api.ErrLong, 0, 0)
	fails(t, strings.Repeat(" ", 65537), api.ErrLong, 0, 0)
	wrong(t, strings.Repeat(" ", 65536), 1, 1)
	wrong(t, strings.Repeat("}\n", 32768), 1, 1)
	src := one("ret v0")
	valid(t, src+strings.Repeat("\n", 65536-len(src)))
	fails(t, src+strings.Repeat("\n", 65537-len(src)), api.ErrLong, 0, 0)
}

// P13.1: each line with a word less, a word more, and another one; where tokens end too early, the last one counts.
func TestWrongForm(t *testing.T) {
	for _, x := range []struct {
		src       string
		line, col int
	}{
		{"\n# x\n \n", 1, 1}, {"heap", 1, 5}, {"heap  ", 1, 7}, {"heap 0 \n\n", 1, 8}, {" 0", 1, 2}, {"heap: 0", 1, 1}, {"Heap 0", 1, 1}, {"heap heap", 1, 6}, {"heap 0 {", 1, 8}, {"heap 0\nheap 0", 2, 1},
		{"thread m", 1, 1}, {"func m 0 {", 1, 1}, {"heap 0\nthread", 2, 7}, {"heap 0\nthread:", 2, 1}, {"heap 0\nthread m m", 2, 10}, {"heap 0\nthread m\nthread", 3, 7}, {"heap 0\nthread m\nfunc:", 3, 1}, {"heap 0\nthread m\nret v0", 3, 1},
		{"heap 0\nthread m\nfunc", 3, 5}, {"heap 0\nthread m\nfunc m", 3, 7}, {"heap 0\nthread m\nfunc m {", 3, 8}, {"heap 0\nthread m\nfunc m 0", 3, 9}, {"heap 0\nthread m\nfunc m v0 {", 3, 8}, {"heap 0\nthread m\nfunc m 0 }", 3, 10}, {"heap 0\nthread m\nfunc m 0 { a:", 3, 12}, {"heap 0\nthread m\nfunc m 0 {\n", 3, 11},
		{"heap 0\nthread m\nfunc m 0 {\na:\n", 4, 3}, {"heap 0\nthread m\nfunc m 0 {\na\n", 4, 1}, {"heap 0\nthread m\nfunc m 0 {\na: }\n", 4, 4}, {"heap 0\nthread m\nfunc m 0 {\na:\n} {", 5, 3}, {"heap 0\nthread m\nfunc m 0 {\na:\n}\nthread m", 6, 1}, {"heap 0\nthread m\nfunc m 0 {\na:\n}\nheap", 6, 1}, {"heap 0\nthread m\nfunc m 0 {\na:\n}\na:", 6, 1}, {"heap 0\nthread m\nfunc m 0 {\na:\n}\nfunc n 0 {", 6, 11},
		{one("const"), 5, 6}, {one("const v0"), 5, 9}, {one("const 0 0"), 5, 7}, {one("const v0 v0"), 5, 10}, {one("const v0 0 0"), 5, 12}, {one("add v0 v0"), 5, 10}, {one("add v0 v0 0"), 5, 11}, {one("add v0 v0 v0 v0"), 5, 14}, {one("eq"), 5, 3}, {one("mov v0"), 5, 7}, {one("mov v0 0"), 5, 8}, {one("mov v0 v0 v0"), 5, 11}, {one("load v0"), 5, 8}, {one("load 0"), 5, 6}, {one("store v0"), 5, 9}, {one("store v0 v0 v0"), 5, 13},
		{one("call"), 5, 5}, {one("call v0"), 5, 8}, {one("call m"), 5, 6}, {one("call v0 m 0"), 5, 11}, {one("call v0 m v0 m"), 5, 14}, {one("call v0 m v0 v0 v0 v0 v0 v0 m"), 5, 29}, {one("print"), 5, 6}, {one("print 0"), 5, 7}, {one("print v0 v0"), 5, 10}, {one("yield v0"), 5, 7}, {one("yield a"), 5, 7}, {one("jmp"), 5, 4}, {one("jmp v0"), 5, 5}, {one("jmp a a"), 5, 7}, {one("br a a"), 5, 4}, {one("br v0 a"), 5, 8}, {one("br v0 a v0"), 5, 9}, {one("br v0 a a a"), 5, 11}, {one("ret"), 5, 4}, {one("ret a"), 5, 5}, {one("ret v0 v0"), 5, 8},
		{one("v0"), 5, 1}, {one("0"), 5, 1}, {one("{"), 5, 1}, {one("add:  v0"), 5, 7}, {one("func n 0 {"), 5, 1}, {one("}"), 6, 1}, {one("ret v0 }"), 5, 8},
	} {
		wrong(t, x.src, x.line, x.col)
	}
}

// P13.1: white bytes, empty lines and how the last line ends do not count.
func TestWhite(t *testing.T) {
	want := valid(t, one("const v0 5", "ret v0"))
	parses(t, "\n\theap  0\r\n# x\nthread\tm\n\n\r\nfunc m \t 0 {  \n  a:\n# }\nconst v0\r5\n\n  \n   ret  v0\n}\n#", want)
	parses(t, one("const v0 5", "ret v0")+"\n", want)
}

// P13.2: programs of sources, and lines of their instructions.
func TestPrint(t *testing.T) {
	const src = "heap 1024\nthread n\nthread m\nfunc m 6 {\na:\n  const v5 4294967295\n  call v4095 n\n  call v1 m v1 v2 v3 v4 v5 v6\nb:\n}\nfunc n 0 {\nb:\n  add v0 v1 v2\n  mov v0 v1\n  load v0 v1\n  store v0 v1\n  print v9\n  yield\n  br v1 a b\na:\n  jmp b\n  ret v0\n}\n"
	p := valid(t, strings.ReplaceAll(strings.ReplaceAll(src, "4294967295", "-1"), "\n ", "\n\n\t"))
	prints(t, p, src)
	goesRound(t, p)
	all := strings.Split(src, "\n")
	at := 0
	for i, f := range p.Funcs {
		for _, b := range f.Blocks {
			for _, x := range b.Ins {
				for !strings.HasPrefix(all[at], " ") {
					at++
				}
				lineIs(t, p, i, x, all[at][2:])
				at++
			}
		}
	}
	prints(t, valid(t, one()), "heap 0\nthread m\nfunc m 0 {\na:\n}\n")
}

// P13.2: each operation.
func TestLinesOfOperations(t *testing.T) {
	for n, s := range strings.Fields("add sub mul div rem and or xor shl shr sar lt ltu eq") {
		lineIs(t, api.Prog{}, 0, api.Ins{Op: 1, N: uint32(n), D: 1, A: 2, B: 3, F: 7, Args: []int{9}, L1: 4, L2: 5}, s+" v1 v2 v3")
	}
	for _, n := range []uint32{14, 15, 16, 100, 255, 256, 257, 1 << 8, 1<<16 + 1, 1 << 31, math.MaxUint32} {
		lineIs(t, api.Prog{}, 0, api.Ins{Op: 1, N: n, D: 1, A: 2, B: 3}, "?")
	}
	for op := 11; op < 256; op++ {
		lineIs(t, api.Prog{}, 0, api.Ins{Op: uint8(op), D: 1, A: 2, B: 3, Args: []int{9}}, "?")
	}
}

// P13.2: what no source has: numbers below 0, functions, blocks and registers that do not exist, names that are none.
func TestPrintOfNoSource(t *testing.T) {
	prints(t, api.Prog{}, "heap 0\n")
	prints(t, api.Prog{Heap: -1, Threads: []int{}, Funcs: []api.Func{}}, "heap -1\n")
	prints(t, api.Prog{Heap: math.MinInt, Threads: []int{0, -1, 1, math.MaxInt, math.MinInt}}, "heap -9223372036854775808\nthread ?\nthread ?\nthread ?\nthread ?\nthread ?\n")
	prints(t, api.Prog{Heap: math.MaxInt, Funcs: []api.Func{{}}}, "heap 9223372036854775807\nfunc  0 {\n}\n")
	prints(t, api.Prog{Heap: 1025, Threads: []int{1, 0, 2}, Funcs: []api.Func{{Name: "a", Args: -7}, {Args: 4000, Regs: 2}}}, "heap 1025\nthread \nthread a\nthread ?\nfunc a -7 {\n}\nfunc  4000 {\n}\n")
	prints(t, api.Prog{Funcs: []api.Func{{Name: "a", Blocks: []api.Block{{}, {Name: "?", Ins: []api.Ins{{Op: 8, L1: 0}, {Op: 8, L1: 1}, {Op: 8, L1: 2}, {Op: 8, L1: -1}, {Op: 99}, {Op: 1, N: 14}, {Op: 5, F: 1}, {}}}}}}},
		"heap 0\nfunc a 0 {\n:\n?:\n  jmp \n  jmp ?\n  jmp ?\n  jmp ?\n  ?\n  ?\n  call v0 ?\n  const v0 0\n}\n")
	two := api.Prog{Funcs: []api.Func{{Name: "f", Blocks: []api.Block{{Name: "a"}, {Name: "b"}}}, {Name: "g", Blocks: []api.Block{{Name: "c"}}}}}
	br := api.Ins{Op: 9, A: 3, L2: 1}
	for f, want := range map[int]string{0: "br v3 a b", 1: "br v3 c ?", 2: "br v3 ? ?", -1: "br v3 ? ?", math.MaxInt: "br v3 ? ?", math.MinInt: "br v3 ? ?"} {
		lineIs(t, two, f, br, want)
	}
	for i, want := range map[int]string{0: "f", 1: "g", 2: "?", -1: "?", math.MaxInt: "?", math.MinInt: "?"} {
		lineIs(t, two, 5, api.Ins{Op: 5, F: i}, "call v0 "+want)
	}
	for n, want := range map[int]string{0: "v0", 4095: "v4095", 4096: "", -1: "", math.MaxInt: "", math.MinInt: "", 1 << 32: ""} {
		lineIs(t, two, 0, api.Ins{Op: 10, A: n}, "ret "+want)
		lineIs(t, two, 0, api.Ins{Op: 2, D: n, A: n}, "mov "+want+" "+want)
		lineIs(t, two, 0, api.Ins{Op: 4, D: 1, A: n, B: n}, "store "+want+" "+want)
		lineIs(t, two, 0, api.Ins{Op: 5, D: n, F: 1, Args: []int{n, 1, n}}, "call "+want+" g "+want+" v1 "+want)
		lineIs(t, two, 0, api.Ins{D: n, N: 5}, "const "+want+" 5")
	}
	lineIs(t, two, 0, api.Ins{Op: 5, Args: make([]int, 8)}, "call v0 f v0 v0 v0 v0 v0 v0 v0 v0")
	lineIs(t, two, 0, api.Ins{Op: 5, Args: []int{}}, "call v0 f")
}

// P13.3: a program whose source is too long, though the one that it was parsed from isn't.
func TestTooLongASource(t *testing.T) {
	p := valid(t, one(strings.Repeat("yield\n", 10900)))
	if s := parse.Print(p); len(s) < 65537 {
		t.Fatal(len(s))
	}
	goesRound(t, p)
	goesRound(t, valid(t, one(strings.Repeat("yield\n", 8000))))
}

// R4, R5: what Parse returns is new memory each time, and no two lists of it share any.
func TestNewMemory(t *testing.T) {
	src := lines("heap 1", "thread m", "thread n", "func m 2 {", "a:", "call v1 m v1 v2", "call v1 m v3", "jmp b", "b:", "ret v1", "ret v2", "ret v3", "c:", "ret v4", "}", "func n 1 {", "a:", "call v1 m v4 v5 v6", "b:", "ret v1", "}")
	p, other, want := valid(t, src), valid(t, src), valid(t, src)
	changeAll(&p)
	if !reflect.DeepEqual(other, want) || !reflect.DeepEqual(valid(t, src), want) {
		t.Fatalf("Parse shares memory with an earlier call: %v", other)
	}
	extend(&other)
	if !reflect.DeepEqual(other, want) {
		t.Fatalf("lists of a program share memory: %v", other)
	}
}

// changeAll changes all that a program has, with the capacity behind its lists.
func changeAll(p *api.Prog) {
	for i := range p.Threads[:cap(p.Threads)] {
		p.Threads[:cap(p.Threads)][i] = 99
	}
	for _, f := range p.Funcs {
		for _, b := range f.Blocks {
			for _, x := range b.Ins {
				for k := range x.Args[:cap(x.Args)] {
					x.Args[:cap(x.Args)][k] = 99
				}
			}
			clear(b.Ins[:cap(b.Ins)])
		}
		clear(f.Blocks[:cap(f.Blocks)])
	}
	clear(p.Funcs[:cap(p.Funcs)])
}

// extend appends to all lists of a program, and drops what comes of it.
func extend(p *api.Prog) {
	_ = append(p.Threads, 99)
	_ = append(p.Funcs, api.Func{Name: "x"})
	for _, f := range p.Funcs {
		_ = append(f.Blocks, api.Block{Name: "x"})
		for _, b := range f.Blocks {
			_ = append(b.Ins, api.Ins{Op: 99})
			for _, x := range b.Ins {
				_ = append(x.Args, 99)
			}
		}
	}
}

// R5: Print and Line change nothing of what they are given, nor of the capacity behind it.
func TestPrintKeepsItsProgram(t *testing.T) {
	r := rand.New(rand.NewSource(5))
	for range 2000 {
		seed := r.Int63()
		p, want := randomProg(rand.New(rand.NewSource(seed))), randomProg(rand.New(rand.NewSource(seed)))
		args := []int{1, 2, 3, 4, 5}
		x := api.Ins{Op: uint8(r.Intn(12)), Args: args[:2:4]}
		parse.Print(p)
		parse.Line(p, r.Intn(3), x)
		if !reflect.DeepEqual(p, want) || !reflect.DeepEqual(args, []int{1, 2, 3, 4, 5}) {
			t.Fatalf("%v; was %v", p, want)
		}
	}
}
