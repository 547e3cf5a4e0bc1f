package parse_test

import (
	"fmt"
	"math"
	"math/rand"
	"reflect"
	"strings"
	"testing"

	"muntin/api"
	"muntin/lex"
	"muntin/parse"
)

// form is a part of the chapter's form: a token, if is is set; one of several sequences; or from low to high times a sequence.
type form struct {
	is        func(t api.Token) bool
	of        [][]form
	low, high int
}

func matching(is func(t api.Token) bool) form { return form{is: is} }

func kind(k uint8) form { return matching(func(t api.Token) bool { return t.Kind == k }) }

func word(s string) form {
	return matching(func(t api.Token) bool { return t.Kind == 0 && t.Text == s })
}

func upTo(most uint32) form {
	return matching(func(t api.Token) bool { return t.Kind == 3 && t.N <= most })
}

func times(low, high int, l ...form) form { return form{of: [][]form{l}, low: low, high: high} }

func either(l ...[]form) form { return form{of: l, low: 1, high: 1} }

// after returns what can follow a token, with which l begins; nothing, if it can't begin with it.
func after(l []form, t api.Token) [][]form {
	if len(l) == 0 {
		return nil
	}
	first, rest := l[0], l[1:]
	if first.is != nil {
		if first.is(t) {
			return [][]form{rest}
		}
		return nil
	}
	var all [][]form
	if first.high > 0 {
		again := form{of: first.of, low: first.low - 1, high: first.high - 1}
		for _, s := range first.of {
			all = append(all, after(append(append(append([]form{}, s...), again), rest...), t)...)
		}
	}
	if first.low <= 0 {
		all = append(all, after(rest, t)...)
	}
	return all
}

// canEnd reports whether nothing has to follow.
func canEnd(l []form) bool {
	for _, f := range l {
		if f.is != nil || f.low > 0 {
			return false
		}
	}
	return true
}

// many is more than any source has.
const many = math.MaxInt32

// aluNames are the operations in the chapter's order.
func aluNames() []string {
	return strings.Split("add, sub, mul, div, rem, and, or, xor, shl, shr, sar, lt, ltu, eq", ", ")
}

// sourceForm is the chapter's form of a source.
func sourceForm() []form {
	name, label, reg, number, open, shut, end := kind(0), kind(1), kind(2), kind(3), kind(4), kind(5), kind(6)
	lines := [][]form{
		{word("const"), reg, number, end},
		{word("mov"), reg, reg, end},
		{word("load"), reg, reg, end},
		{word("store"), reg, reg, end},
		{word("call"), reg, name, times(0, 6, reg), end},
		{word("print"), reg, end},
		{word("yield"), end},
		{word("jmp"), name, end},
		{word("br"), reg, name, name, end},
		{word("ret"), reg, end},
	}
	for _, s := range aluNames() {
		lines = append(lines, []form{word(s), reg, reg, reg, end})
	}
	block := []form{label, end, times(0, many, either(lines...))}
	function := []form{word("func"), name, upTo(6), open, end, times(1, many, block...), shut, end}
	return []form{
		word("heap"), upTo(1024), end,
		times(1, 4, word("thread"), name, end),
		times(1, 64, function...),
	}
}

// formWrong is where the tokens do not have the form.
func formWrong(l []api.Token) (api.Pos, bool) {
	can := [][]form{sourceForm()}
	for _, t := range l {
		var next [][]form
		for _, f := range can {
			next = append(next, after(f, t)...)
		}
		if len(next) == 0 {
			return t.Pos, true
		}
		can = next
	}
	for _, f := range can {
		if canEnd(f) {
			return api.Pos{}, false
		}
	}
	if len(l) == 0 {
		return api.Pos{Line: 1, Col: 1}, true
	}
	return l[len(l)-1].Pos, true
}

// tokenLines are the lines of a source, without their TkEnd.
func tokenLines(l []api.Token) [][]api.Token {
	var lines [][]api.Token
	var line []api.Token
	for _, t := range l {
		if t.Kind == 6 {
			lines, line = append(lines, line), nil
		} else {
			line = append(line, t)
		}
	}
	return lines
}

// usedFunc and usedBlocks are which words of a line stand for functions, and for blocks.
func usedFunc(first string) []int {
	return map[string][]int{"thread": {1}, "call": {2}}[first]
}

func usedBlocks(first string) []int {
	return map[string][]int{"jmp": {1}, "br": {2, 3}}[first]
}

// defined are all functions, and all blocks of each.
func defined(lines [][]api.Token) ([]string, [][]string) {
	var funcs []string
	var blocks [][]string
	for _, line := range lines {
		switch {
		case line[0].Kind == 1:
			blocks[len(blocks)-1] = append(blocks[len(blocks)-1], line[0].Text)
		case line[0].Text == "func":
			funcs = append(funcs, line[1].Text)
			blocks = append(blocks, nil)
		}
	}
	return funcs, blocks
}

func indexOf(l []string, s string) int {
	for i := range l {
		if l[i] == s {
			return i
		}
	}
	return -1
}

// namesWrong is where the names of a source that has the form are wrong.
func namesWrong(lines [][]api.Token) (api.Pos, bool) {
	funcs, blocks := defined(lines)
	f, b := -1, -1
	for _, line := range lines {
		switch {
		case line[0].Kind == 1:
			b++
			if indexOf(blocks[f][:b], line[0].Text) >= 0 {
				return line[0].Pos, true
			}
			continue
		case line[0].Text == "func":
			f, b = f+1, -1
			if indexOf(funcs[:f], line[1].Text) >= 0 {
				return line[1].Pos, true
			}
			continue
		}
		for _, i := range usedFunc(line[0].Text) {
			if indexOf(funcs, line[i].Text) < 0 {
				return line[i].Pos, true
			}
		}
		for _, i := range usedBlocks(line[0].Text) {
			if indexOf(blocks[f], line[i].Text) < 0 {
				return line[i].Pos, true
			}
		}
	}
	return api.Pos{}, false
}

// instruction is what a line of an instruction means.
func instruction(line []api.Token, funcs, blocks []string) api.Ins {
	reg := func(i int) int { return int(line[i].N) }
	switch s := line[0].Text; s {
	case "const":
		return api.Ins{Op: 0, D: reg(1), N: line[2].N}
	case "mov":
		return api.Ins{Op: 2, D: reg(1), A: reg(2)}
	case "load":
		return api.Ins{Op: 3, D: reg(1), A: reg(2)}
	case "store":
		return api.Ins{Op: 4, A: reg(1), B: reg(2)}
	case "call":
		x := api.Ins{Op: 5, D: reg(1), F: indexOf(funcs, line[2].Text)}
		for _, t := range line[3:] {
			x.Args = append(x.Args, int(t.N))
		}
		return x
	case "print":
		return api.Ins{Op: 6, A: reg(1)}
	case "yield":
		return api.Ins{Op: 7}
	case "jmp":
		return api.Ins{Op: 8, L1: indexOf(blocks, line[1].Text)}
	case "br":
		return api.Ins{Op: 9, A: reg(1), L1: indexOf(blocks, line[2].Text), L2: indexOf(blocks, line[3].Text)}
	case "ret":
		return api.Ins{Op: 10, A: reg(1)}
	default:
		return api.Ins{Op: 1, N: uint32(indexOf(aluNames(), s)), D: reg(1), A: reg(2), B: reg(3)}
	}
}

// program is what a source without errors means.
func program(lines [][]api.Token) api.Prog {
	var p api.Prog
	funcs, blocks := defined(lines)
	f := -1
	for _, line := range lines {
		for _, t := range line {
			if t.Kind == 2 && int(t.N) >= p.Funcs[f].Regs {
				p.Funcs[f].Regs = int(t.N) + 1
			}
		}
		switch {
		case line[0].Kind == 5:
		case line[0].Kind == 1:
			p.Funcs[f].Blocks = append(p.Funcs[f].Blocks, api.Block{Name: line[0].Text})
		case line[0].Text == "heap":
			p.Heap = int(line[1].N)
		case line[0].Text == "thread":
			p.Threads = append(p.Threads, indexOf(funcs, line[1].Text))
		case line[0].Text == "func":
			f++
			p.Funcs = append(p.Funcs, api.Func{Name: line[1].Text, Args: int(line[2].N), Regs: int(line[2].N)})
		default:
			b := &p.Funcs[f].Blocks[len(p.Funcs[f].Blocks)-1]
			b.Ins = append(b.Ins, instruction(line, funcs, blocks[f]))
		}
	}
	return p
}

// parsed is what the chapter says of a source.
func parsed(src string) (api.Prog, api.Pos, api.Errno) {
	l, pos, e := lex.Lex(src)
	if e != 0 {
		return api.Prog{}, pos, e
	}
	if pos, wrong := formWrong(l); wrong {
		return api.Prog{}, pos, 130
	}
	lines := tokenLines(l)
	if pos, wrong := namesWrong(lines); wrong {
		return api.Prog{}, pos, 130
	}
	return program(lines), api.Pos{}, 0
}

// register is a register's word, if it exists.
func register(n int) string {
	if n < 0 || n > 4095 {
		return ""
	}
	return fmt.Sprint("v", n)
}

func printedFunc(p api.Prog, f int) string {
	if f < 0 || f >= len(p.Funcs) {
		return "?"
	}
	return p.Funcs[f].Name
}

func printedBlock(p api.Prog, f, b int) string {
	if f < 0 || f >= len(p.Funcs) || b < 0 || b >= len(p.Funcs[f].Blocks) {
		return "?"
	}
	return p.Funcs[f].Blocks[b].Name
}

// printedLine is what the chapter says of an instruction.
func printedLine(p api.Prog, f int, x api.Ins) string {
	d, a, b := register(x.D), register(x.A), register(x.B)
	to, other := printedBlock(p, f, x.L1), printedBlock(p, f, x.L2)
	switch {
	case x.Op == 0:
		return fmt.Sprintf("const %s %d", d, x.N)
	case x.Op == 1 && x.N < 14:
		return fmt.Sprintf("%s %s %s %s", aluNames()[x.N], d, a, b)
	case x.Op == 2:
		return fmt.Sprintf("mov %s %s", d, a)
	case x.Op == 3:
		return fmt.Sprintf("load %s %s", d, a)
	case x.Op == 4:
		return fmt.Sprintf("store %s %s", a, b)
	case x.Op == 5:
		s := fmt.Sprintf("call %s %s", d, printedFunc(p, x.F))
		for _, n := range x.Args {
			s += " " + register(n)
		}
		return s
	case x.Op == 6:
		return "print " + a
	case x.Op == 7:
		return "yield"
	case x.Op == 8:
		return "jmp " + to
	case x.Op == 9:
		return fmt.Sprintf("br %s %s %s", a, to, other)
	case x.Op == 10:
		return "ret " + a
	}
	return "?"
}

// printed is what the chapter says of a program.
func printed(p api.Prog) string {
	s := fmt.Sprintf("heap %d\n", p.Heap)
	for _, f := range p.Threads {
		s += fmt.Sprintf("thread %s\n", printedFunc(p, f))
	}
	for i, f := range p.Funcs {
		s += fmt.Sprintf("func %s %d {\n", f.Name, f.Args)
		for _, b := range f.Blocks {
			s += fmt.Sprintf("%s:\n", b.Name)
			for _, x := range b.Ins {
				s += fmt.Sprintf("  %s\n", printedLine(p, i, x))
			}
		}
		s += "}\n"
	}
	return s
}

// asModel holds Parse against the model, and Print of what it returned.
func asModel(t *testing.T, src string) api.Errno {
	t.Helper()
	p, pos, e := parse.Parse(src)
	want, at, errno := parsed(src)
	if !reflect.DeepEqual(p, want) || pos != at || e != errno {
		t.Fatalf("Parse(%.2000q) = %v, %v, %d; want %v, %v, %d", src, p, pos, e, want, at, errno)
	}
	if e == api.OK {
		prints(t, p, printed(want))
		goesRound(t, p)
	}
	return e
}

// randomName is one of few names, so that many meet; all are words that have a meaning somewhere else, but for two.
func randomName(r *rand.Rand) string {
	return [...]string{"a", "b", "heap", "thread", "func", "const", "call", "add", "jmp", "ret"}[r.Intn(10)]
}

// randomReg is mostly one of few registers.
func randomReg(r *rand.Rand) string {
	if r.Intn(20) == 0 {
		return fmt.Sprint("v", r.Intn(4096))
	}
	return fmt.Sprint("v", r.Intn(9))
}

// randomInstruction is the words of an instruction of a function with these blocks.
func randomInstruction(r *rand.Rand, funcs, blocks []string) []string {
	reg := func() string { return randomReg(r) }
	to := func() string { return blocks[r.Intn(len(blocks))] }
	switch r.Intn(12) {
	case 0:
		return []string{"const", reg(), []string{"0", "7", "-1", "-2147483648", "4294967295", fmt.Sprint(r.Uint32())}[r.Intn(6)]}
	case 1:
		return []string{"mov", reg(), reg()}
	case 2:
		return []string{"load", reg(), reg()}
	case 3:
		return []string{"store", reg(), reg()}
	case 4:
		l := []string{"call", reg(), funcs[r.Intn(len(funcs))]}
		for n := r.Intn(7); n > 0; n-- {
			l = append(l, reg())
		}
		return l
	case 5:
		return []string{"print", reg()}
	case 6:
		return []string{"yield"}
	case 7:
		return []string{"jmp", to()}
	case 8:
		return []string{"br", reg(), to(), to()}
	case 9:
		return []string{"ret", reg()}
	default:
		return []string{aluNames()[r.Intn(14)], reg(), reg(), reg()}
	}
}

// differentNames are from 1 to most names, all different.
func differentNames(r *rand.Rand, most int) []string {
	l := []string{randomName(r)}
	for n := r.Intn(most); n > 0; n-- {
		s := randomName(r)
		for indexOf(l, s) >= 0 {
			s += "x"
		}
		l = append(l, s)
	}
	return l
}

// randomLines is the words of a source without errors.
func randomLines(r *rand.Rand) [][]string {
	funcs := differentNames(r, 5)
	lines := [][]string{{"heap", fmt.Sprint(r.Intn(1025))}}
	for n := 1 + r.Intn(4); n > 0; n-- {
		lines = append(lines, []string{"thread", funcs[r.Intn(len(funcs))]})
	}
	for _, f := range funcs {
		lines = append(lines, []string{"func", f, fmt.Sprint(r.Intn(7)), "{"})
		blocks := differentNames(r, 4)
		for _, b := range blocks {
			lines = append(lines, []string{b + ":"})
			for n := r.Intn(5); n > 0; n-- {
				lines = append(lines, randomInstruction(r, funcs, blocks))
			}
		}
		lines = append(lines, []string{"}"})
	}
	return lines
}

// someWords are words of all kinds, good in some place.
func someWords() []string {
	return []string{
		"heap", "thread", "func", "const", "add", "eq", "mov", "load", "store", "call", "print", "yield", "jmp", "br", "ret", "nop",
		"a", "b", "m", "zz", "a:", "b:", "m:", "heap:", "ret:", "v0", "v8", "v4095", "0", "6", "7", "64", "1024", "1025", "-1", "4294967295", "{", "}",
	}
}

// randomEdit changes a word, or a line.
func randomEdit(r *rand.Rand, lines [][]string) [][]string {
	lines = append([][]string{}, lines...)
	i, j := r.Intn(len(lines)), r.Intn(len(lines))
	line := append([]string{}, lines[i]...)
	k := r.Intn(len(line))
	some := someWords()[r.Intn(len(someWords()))]
	switch r.Intn(8) {
	case 0:
		if len(line) == 1 {
			return append(lines[:i], lines[i+1:]...)
		}
		line = append(line[:k], line[k+1:]...)
	case 1:
		line = append(line[:k+1], line[k:]...)
		line[k] = some
	case 2, 3, 4:
		line[k] = some
	case 5:
		line = append(line, some)
	case 6:
		return append(lines[:i], lines[i+1:]...)
	case 7:
		lines[i], lines[j] = lines[j], lines[i]
		return lines
	}
	lines[i] = line
	return lines
}

// written is a source of these words, with white bytes and empty lines.
func written(r *rand.Rand, lines [][]string) string {
	s := ""
	white := func(low int) string { return strings.Repeat([]string{" ", "\t", "\r"}[r.Intn(3)], low+r.Intn(2)) }
	for _, line := range lines {
		for r.Intn(5) == 0 {
			s += white(0) + []string{"", "# ret ?"}[r.Intn(2)] + "\n"
		}
		s += white(0) + strings.Join(line, white(1)) + white(0) + "\n"
	}
	return s
}

// joined is a source of these words, plainly.
func joined(lines [][]string) string {
	s := ""
	for _, line := range lines {
		s += strings.Join(line, " ") + "\n"
	}
	return s
}

// P13.1, P13.2, P13.3: random sources without errors.
func TestAsModelValid(t *testing.T) {
	r := rand.New(rand.NewSource(13))
	for range 800 {
		lines := randomLines(r)
		if e := asModel(t, written(r, lines)); e != api.OK {
			t.Fatalf("%q: %d", joined(lines), e)
		}
	}
}

// P13.1: random sources with one change, or a few.
func TestAsModelEdited(t *testing.T) {
	r := rand.New(rand.NewSource(130))
	const tries = 5000
	good := 0
	for i := range tries {
		lines := randomLines(r)
		for range 1 + i%3 {
			if len(lines) > 1 {
				lines = randomEdit(r, lines)
			}
		}
		if asModel(t, written(r, lines)) == api.OK {
			good++
		}
	}
	if good < tries/20 || good > tries/2 {
		t.Fatalf("%d of %d sources are good", good, tries)
	}
}

// P13.1: a source that has all lines, with each word removed, replaced by each, and each put before it; and each beginning of it.
func TestAsModelEachEdit(t *testing.T) {
	lines := [][]string{
		{"heap", "3"}, {"thread", "m"}, {"thread", "a"},
		{"func", "m", "2", "{"}, {"a:"}, {"const", "v0", "5"}, {"add", "v0", "v1", "v2"}, {"mov", "v3", "v4"}, {"load", "v1", "v2"}, {"b:"}, {"store", "v1", "v2"},
		{"call", "v1", "m"}, {"call", "v1", "a", "v1", "v2", "v3", "v4", "v5", "v6"}, {"print", "v1"}, {"yield"}, {"jmp", "b"}, {"br", "v1", "a", "b"}, {"ret", "v1"}, {"}"},
		{"func", "a", "0", "{"}, {"m:"}, {"ret", "v0"}, {"}"},
	}
	for i, line := range lines {
		asModel(t, joined(lines[:i]))
		asModel(t, joined(append(append([][]string{}, lines[:i]...), lines[i+1:]...)))
		asModel(t, joined(append(append([][]string{}, lines[:i+1]...), lines[i:]...)))
		edit := func(words ...string) {
			asModel(t, joined(append(append(append([][]string{}, lines[:i]...), words), lines[i+1:]...)))
		}
		for k := range len(line) {
			edit(append(append([]string{}, line[:k]...), line[k+1:]...)...)
			asModel(t, joined(append(append([][]string{}, lines[:i]...), line[:k])))
		}
		for _, s := range someWords() {
			for k := range len(line) {
				edit(append(append(append([]string{}, line[:k]...), s), line[k:]...)...)
				edit(append(append(append([]string{}, line[:k]...), s), line[k+1:]...)...)
			}
			edit(append(append([]string{}, line...), s)...)
		}
	}
}

// P13.1: random words.
func TestAsModelRandomWords(t *testing.T) {
	r := rand.New(rand.NewSource(1300))
	words := someWords()
	for range 20000 {
		src := "heap 1\nthread a\n"[:[]int{0, 7, 16}[r.Intn(3)]]
		for n := r.Intn(12); n > 0; n-- {
			src += words[r.Intn(len(words))] + []string{" ", "\n"}[r.Intn(2)]
		}
		asModel(t, src)
	}
}

// randomInt is mostly small; it can be below 0, and very large.
func randomInt(r *rand.Rand) int {
	switch r.Intn(12) {
	case 0:
		return -1 - r.Intn(3)
	case 1:
		return []int{math.MinInt, math.MaxInt, 4095, 4096, 1 << 32, -1 << 32, 1<<32 + 1, 1 << 8, 1 << 16}[r.Intn(9)]
	}
	return r.Intn(5)
}

// randomProg is a program that no source has to have.
func randomProg(r *rand.Rand) api.Prog {
	name := func() string { return []string{"", "a", "?", "a b", "\n", "v0", "func"}[r.Intn(7)] }
	p := api.Prog{Heap: randomInt(r)}
	for n := r.Intn(6); n > 0; n-- {
		p.Threads = append(p.Threads, randomInt(r))
	}
	for n := r.Intn(4); n > 0; n-- {
		f := api.Func{Name: name(), Args: randomInt(r), Regs: randomInt(r)}
		for m := r.Intn(4); m > 0; m-- {
			b := api.Block{Name: name()}
			for k := r.Intn(6); k > 0; k-- {
				b.Ins = append(b.Ins, randomIns(r))
			}
			f.Blocks = append(f.Blocks, b)
		}
		p.Funcs = append(p.Funcs, f)
	}
	return p
}

func randomIns(r *rand.Rand) api.Ins {
	x := api.Ins{Op: uint8(r.Intn(13)), D: randomInt(r), A: randomInt(r), B: randomInt(r), N: uint32(r.Intn(17)), F: randomInt(r), L1: randomInt(r), L2: randomInt(r)}
	if r.Intn(5) == 0 {
		x.Op, x.N = uint8(r.Intn(256)), r.Uint32()
	}
	for n := r.Intn(9); n > 0; n-- {
		x.Args = append(x.Args, randomInt(r))
	}
	return x
}

// P13.2, R1: random programs that no source has to have.
func TestPrintAsModel(t *testing.T) {
	r := rand.New(rand.NewSource(132))
	for range 30000 {
		p := randomProg(r)
		prints(t, p, printed(p))
		f, x := randomInt(r), randomIns(r)
		lineIs(t, p, f, x, printedLine(p, f, x))
	}
}
