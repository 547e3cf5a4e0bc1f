package shape_test

import (
	"fmt"
	"math"
	"math/rand"
	"reflect"
	"slices"
	"strings"
	"testing"

	"muntin/api"
	"muntin/parse"
	"muntin/shape"
)

// table is layer 13's: for each Op, the fields that its words give (P: Args).
func table() []string {
	return []string{"D N", "D A B N", "D A", "D A", "A B", "D F P", "A", "", "L1", "A L1 L2", "A"}
}

// value is a field of an instruction, and the registers in it.
type value struct {
	zero bool
	regs []int
}

func values(x api.Ins) map[string]value {
	return map[string]value{
		"D": {x.D == 0, []int{x.D}}, "A": {x.A == 0, []int{x.A}}, "B": {x.B == 0, []int{x.B}}, "P": {len(x.Args) == 0, x.Args},
		"N": {x.N == 0, nil}, "F": {x.F == 0, nil}, "L1": {x.L1 == 0, nil}, "L2": {x.L2 == 0, nil},
	}
}

func hasField(op uint8, field string) bool {
	return int(op) < len(table()) && slices.Contains(strings.Fields(table()[op]), field)
}

// inFields returns the registers of an instruction in those of the fields that it has.
func inFields(x api.Ins, fields ...string) []int {
	var l []int
	for _, s := range fields {
		if hasField(x.Op, s) {
			l = append(l, values(x)[s].regs...)
		}
	}
	return l
}

// isName is layer 12's.
func isName(s string) bool {
	const letters, digits = "abcdefghijklmnopqrstuvwxyzABCDEFGHIJKLMNOPQRSTUVWXYZ_", "0123456789"
	if s == "" || len(s) > 64 || strings.Trim(s, letters+digits) != "" || strings.Contains(digits, s[:1]) {
		return false
	}
	return s[0] != 'v' || s == "v" || strings.Trim(s[1:], digits) != ""
}

// wholeWrong to pathWrong are the chapter's four parts.
func wholeWrong(p api.Prog) bool {
	if p.Heap < 0 || p.Heap > 1024 || len(p.Funcs) == 0 || len(p.Funcs) > 64 || len(p.Threads) == 0 || len(p.Threads) > 4 {
		return true
	}
	for _, f := range p.Threads {
		if f < 0 || f >= len(p.Funcs) || p.Funcs[f].Args != 0 {
			return true
		}
	}
	return false
}

func funcWrong(p api.Prog, f int) bool {
	fn := p.Funcs[f]
	for _, earlier := range p.Funcs[:f] {
		if earlier.Name == fn.Name {
			return true
		}
	}
	var need uint64
	for _, b := range fn.Blocks {
		for _, x := range b.Ins {
			for _, r := range inFields(x, "D", "A", "B", "P") {
				if r >= 0 {
					need = max(need, uint64(r)+1)
				}
			}
		}
	}
	if fn.Args >= 0 {
		need = max(need, uint64(fn.Args))
	}
	return !isName(fn.Name) || fn.Args < 0 || fn.Args > 6 || fn.Regs < 0 || uint64(fn.Regs) != need || need > 4096 || len(fn.Blocks) == 0
}

func blockWrong(p api.Prog, f, b int) bool {
	fn := p.Funcs[f]
	block := fn.Blocks[b]
	for _, earlier := range fn.Blocks[:b] {
		if earlier.Name == block.Name {
			return true
		}
	}
	if !isName(block.Name) || len(block.Ins) == 0 {
		return true
	}
	for i, x := range block.Ins {
		ends := x.Op == 8 || x.Op == 9 || x.Op == 10
		if ends && i < len(block.Ins)-1 || !ends && i == len(block.Ins)-1 || insWrong(p, fn, x) {
			return true
		}
	}
	return false
}

func insWrong(p api.Prog, fn api.Func, x api.Ins) bool {
	if x.Op > 10 || x.Op == 1 && x.N > 13 {
		return true
	}
	for s, v := range values(x) {
		if !hasField(x.Op, s) && !v.zero {
			return true
		}
	}
	for _, r := range inFields(x, "D", "A", "B", "P") {
		if r < 0 {
			return true
		}
	}
	if x.Op == 5 && (x.F < 0 || x.F >= len(p.Funcs) || len(x.Args) != p.Funcs[x.F].Args) {
		return true
	}
	many := len(fn.Blocks)
	return hasField(x.Op, "L1") && (x.L1 < 0 || x.L1 >= many) || hasField(x.Op, "L2") && (x.L2 < 0 || x.L2 >= many)
}

// place is an instruction of a function.
type place struct{ b, i int }

// leads returns the instructions with which a path continues.
func leads(fn api.Func, at place) []place {
	switch x := fn.Blocks[at.b].Ins[at.i]; x.Op {
	case 8:
		return []place{{x.L1, 0}}
	case 9:
		return []place{{x.L1, 0}, {x.L2, 0}}
	case 10:
		return nil
	}
	return []place{{at.b, at.i + 1}}
}

// without returns the instructions to which a path leads on which no instruction writes the register, which is no argument.
func without(fn api.Func, r int) map[place]bool {
	found := map[place]bool{{}: true}
	for l := []place{{}}; len(l) > 0; l = l[1:] {
		at := l[0]
		if slices.Contains(inFields(fn.Blocks[at.b].Ins[at.i], "D"), r) {
			continue
		}
		for _, next := range leads(fn, at) {
			if !found[next] {
				found[next] = true
				l = append(l, next)
			}
		}
	}
	return found
}

// readAnywhere returns the registers that an instruction reads, but for arguments.
func readAnywhere(fn api.Func) []int {
	var l []int
	for _, b := range fn.Blocks {
		for _, x := range b.Ins {
			l = append(l, inFields(x, "A", "B", "P")...)
		}
	}
	slices.Sort(l)
	return slices.DeleteFunc(slices.Compact(l), func(r int) bool { return r < fn.Args })
}

// pathWrong returns the first block of a function that reads what is not definitely assigned.
func pathWrong(fn api.Func) (int, bool) {
	first, wrong := 0, false
	for _, r := range readAnywhere(fn) {
		for at := range without(fn, r) {
			if slices.Contains(inFields(fn.Blocks[at.b].Ins[at.i], "A", "B", "P"), r) && (!wrong || at.b < first) {
				first, wrong = at.b, true
			}
		}
	}
	return first, wrong
}

// checked is what the chapter says of a program; and which of its parts is wrong, from 1 on.
func checked(p api.Prog) (api.Pos, int) {
	if wholeWrong(p) {
		return api.Pos{Line: -1, Col: -1}, 1
	}
	for f := range p.Funcs {
		if funcWrong(p, f) {
			return api.Pos{Line: f, Col: -1}, 2
		}
	}
	for f, fn := range p.Funcs {
		for b := range fn.Blocks {
			if blockWrong(p, f, b) {
				return api.Pos{Line: f, Col: b}, 3
			}
		}
	}
	for f, fn := range p.Funcs {
		if b, wrong := pathWrong(fn); wrong {
			return api.Pos{Line: f, Col: b}, 4
		}
	}
	return api.Pos{}, 0
}

// asModel holds Check against the model, and what it reads and writes; it returns the part that is wrong.
func asModel(t *testing.T, p api.Prog) int {
	t.Helper()
	want, part := checked(p)
	errno := api.ErrShape
	if part == 0 {
		errno = api.OK
	}
	if pos, e := shape.Check(p); pos != want || e != errno {
		t.Fatalf("Check(%s) = %v, %d; want %v, %d", short(p), pos, e, want, errno)
	}
	return part
}

// insAsModel holds what an instruction reads and writes against the model.
func insAsModel(t *testing.T, x api.Ins) {
	t.Helper()
	if l := shape.Reads(x); !slices.Equal(l, inFields(x, "A", "B", "P")) {
		t.Fatalf("Reads(%v) = %v", x, l)
	}
	d, writes := shape.Writes(x)
	if l := inFields(x, "D"); writes != (len(l) == 1) || writes && d != x.D || !writes && d != 0 {
		t.Fatalf("Writes(%v) = %d, %v", x, d, writes)
	}
	if ends := shape.Ends(x); ends != (x.Op >= 8 && x.Op <= 10) {
		t.Fatalf("Ends(%v) = %v", x, ends)
	}
}

// maker makes random programs.
type maker struct {
	*rand.Rand
	p *api.Prog
	// many is how many blocks the function has, and regs which registers its instructions may have.
	many int
	regs []int
}

func (m *maker) reg() int { return m.regs[m.Intn(len(m.regs))] }

// fill gives an instruction with that Op fields that are right for it.
func (m *maker) fill(op uint8) api.Ins {
	x := api.Ins{Op: op}
	for _, s := range strings.Fields(table()[op]) {
		switch s {
		case "D":
			x.D = m.reg()
		case "A":
			x.A = m.reg()
		case "B":
			x.B = m.reg()
		case "N":
			x.N = uint32(m.Intn(14))
		case "F":
			x.F = m.Intn(len(m.p.Funcs))
			for range m.p.Funcs[x.F].Args {
				x.Args = append(x.Args, m.reg())
			}
		case "L1":
			x.L1 = m.Intn(m.many)
		case "L2":
			x.L2 = m.Intn(m.many)
		}
	}
	return x
}

// block makes a block that begins with an assignment of some of the registers.
func (m *maker) block(assigned int) []api.Ins {
	var l []api.Ins
	for _, r := range m.regs {
		if m.Intn(100) < assigned {
			l = append(l, api.Ins{Op: api.IrConst, D: r, N: m.Uint32()})
		}
	}
	for n := m.Intn(4); n > 0; n-- {
		l = append(l, m.fill(uint8(m.Intn(8))))
	}
	return append(l, m.fill([]uint8{8, 9, 9, 10}[m.Intn(4)]))
}

// program makes a program whose first blocks assign that many of 100 registers; it is right but for what is not assigned.
func (m *maker) program(assigned int) api.Prog {
	p := api.Prog{Heap: m.Intn(1025)}
	m.p = &p
	for i := range 1 + m.Intn(4) {
		p.Funcs = append(p.Funcs, api.Func{Name: fmt.Sprint("f", i), Args: max(0, m.Intn(12)-5)})
	}
	p.Funcs[0].Args = 0
	for n := 1 + m.Intn(4); n > 0; n-- {
		f := m.Intn(len(p.Funcs))
		if p.Funcs[f].Args > 0 {
			f = 0
		}
		p.Threads = append(p.Threads, f)
	}
	for i := range p.Funcs {
		m.function(&p.Funcs[i], assigned)
	}
	return p
}

func (m *maker) function(f *api.Func, assigned int) {
	m.regs = []int{0, 1, 2, 3}
	if m.Intn(4) == 0 {
		m.regs = []int{0, 63, 64, 65, 127, 128, 300, m.Intn(4096)}
	}
	m.many = 1 + m.Intn(6)
	for b := range m.many {
		share := assigned
		if b > 0 {
			share = m.Intn(60)
		}
		f.Blocks = append(f.Blocks, api.Block{Name: fmt.Sprint("b", b), Ins: m.block(share)})
	}
	f.Regs = regsOf(*f)
}

// regsOf is what Regs of a function must be.
func regsOf(f api.Func) int {
	n := f.Args
	for _, b := range f.Blocks {
		for _, x := range b.Ins {
			for _, r := range inFields(x, "D", "A", "B", "P") {
				n = max(n, r+1)
			}
		}
	}
	return n
}

// odd is a number that is mostly small.
func (m *maker) odd() int {
	switch m.Intn(10) {
	case 0:
		return []int{math.MinInt, math.MaxInt, 1024, 1025, 4095, 4096, 63, 64, 1 << 32}[m.Intn(9)]
	case 1:
		return -1 - m.Intn(3)
	}
	return m.Intn(9)
}

func (m *maker) name() string {
	return []string{"", "f0", "f1", "b0", "b1", "v1", "v4096", "7", "a b", "b0:", "func", strings.Repeat("x", 64), strings.Repeat("x", 65)}[m.Intn(13)]
}

// edit changes one thing of a program, anywhere; Regs is mostly made right again.
func (m *maker) edit(p *api.Prog) {
	f := &p.Funcs[m.Intn(len(p.Funcs))]
	switch m.Intn(24) {
	case 0:
		p.Heap = m.odd()
	case 1:
		p.Threads = append(p.Threads[:len(p.Threads)/2], m.odd())
	case 2:
		p.Threads = make([]int, m.Intn(7))
	case 3:
		f.Name = m.name()
	case 4:
		f.Args = m.odd()
	case 5:
		f.Regs += m.Intn(3) - 1
		return
	case 6:
		f.Regs = m.odd()
		return
	case 7:
		f.Blocks = f.Blocks[:m.Intn(len(f.Blocks)+1)]
	default:
		m.editBlock(f)
	}
	if f.Regs = regsOf(*f); m.Intn(9) == 0 {
		f.Regs = f.Args
	}
}

func (m *maker) editBlock(f *api.Func) {
	if len(f.Blocks) == 0 {
		return
	}
	b := &f.Blocks[m.Intn(len(f.Blocks))]
	if m.Intn(12) == 0 || len(b.Ins) == 0 {
		b.Name = m.name()
		return
	}
	i := m.Intn(len(b.Ins))
	x := &b.Ins[i]
	switch m.Intn(16) {
	case 0:
		x.Op = uint8(m.Intn(13))
	case 1:
		x.D = m.odd()
	case 2:
		x.A = m.odd()
	case 3:
		x.B = m.odd()
	case 4:
		x.N = uint32(m.odd())
	case 5:
		x.F = m.odd()
	case 6:
		x.Args = append(x.Args, m.odd())
	case 7:
		x.Args = x.Args[:m.Intn(len(x.Args)+1)]
	case 8:
		x.L1 = m.odd()
	case 9:
		x.L2 = m.odd()
	case 10, 11, 12:
		b.Ins = slices.Delete(b.Ins, i, i+1)
	case 13:
		b.Ins = slices.Insert(b.Ins, i, *x)
	case 14:
		m.regs = []int{0, 1, 2, 3}
		*x = m.fill(uint8(m.Intn(11)))
	case 15:
		b.Ins = b.Ins[:m.Intn(len(b.Ins))]
	}
}

// P14.1: random programs, of which few, some, or all of the registers are assigned in their first blocks.
func TestAsModelPaths(t *testing.T) {
	m := &maker{Rand: rand.New(rand.NewSource(14))}
	var parts [5]int
	for i := range 6000 {
		parts[asModel(t, m.program([]int{100, 90, 50}[i%3]))]++
	}
	if parts[0] < 1500 || parts[4] < 1500 || parts[0]+parts[4] != 6000 {
		t.Fatal(parts)
	}
}

// P14.1, R1: random programs with one change, or a few.
func TestAsModelEdited(t *testing.T) {
	m := &maker{Rand: rand.New(rand.NewSource(140))}
	var parts [5]int
	for i := range 12000 {
		p := m.program(100)
		for range 1 + i%3 {
			m.edit(&p)
		}
		parts[asModel(t, p)]++
	}
	for _, n := range parts {
		if n < 150 {
			t.Fatal(parts)
		}
	}
}

// P14.2, R1: random instructions.
func TestInsAsModel(t *testing.T) {
	m := &maker{Rand: rand.New(rand.NewSource(142))}
	for range 20000 {
		x := api.Ins{Op: uint8(m.Intn(13)), D: m.odd(), A: m.odd(), B: m.odd(), N: m.Uint32(), F: m.odd(), L1: m.odd(), L2: m.odd()}
		if m.Intn(9) == 0 {
			x.Op = uint8(m.Intn(256))
		}
		for n := m.Intn(9); n > 0; n-- {
			x.Args = append(x.Args, m.odd())
		}
		insAsModel(t, x)
	}
}

// someValid makes a valid program.
func (m *maker) someValid(t *testing.T) api.Prog {
	t.Helper()
	for range 1000 {
		p := m.program(100)
		if _, e := shape.Check(p); e == api.OK {
			return p
		}
	}
	t.Fatal("no program is valid")
	return api.Prog{}
}

// P14.3: the text of a valid program is a source of that program; beyond MaxSource it is none.
func TestGoesRound(t *testing.T) {
	m := &maker{Rand: rand.New(rand.NewSource(143))}
	for range 3000 {
		p := m.someValid(t)
		again, pos, e := parse.Parse(parse.Print(p))
		if !reflect.DeepEqual(again, p) || pos != (api.Pos{}) || e != api.OK {
			t.Fatalf("Parse(Print(%s)) = %s, %v, %d", short(p), short(again), pos, e)
		}
	}
	p := one(t, "a:", "const v0 1", "ret v0")
	ins := p.Funcs[0].Blocks[0].Ins
	p.Funcs[0].Blocks[0].Ins = append(slices.Repeat(ins[:1], 7000), ins[1])
	valid(t, p)
	if _, pos, e := parse.Parse(parse.Print(p)); pos != (api.Pos{}) || e != api.ErrLong {
		t.Fatal(pos, e)
	}
}

// P14.4: a valid program stays valid with a register written that is read, at the beginning of the block where it is read.
func TestWrittenBefore(t *testing.T) {
	m := &maker{Rand: rand.New(rand.NewSource(144))}
	for range 2000 {
		p := m.someValid(t)
		for _, f := range p.Funcs {
			for b, block := range f.Blocks {
				for _, x := range block.Ins {
					for _, r := range shape.Reads(x) {
						f.Blocks[b].Ins = slices.Insert(slices.Clone(block.Ins), 0, api.Ins{Op: api.IrConst, D: r, N: 7})
						valid(t, p)
					}
				}
				f.Blocks[b].Ins = block.Ins
			}
		}
	}
}

// P14.4: a valid program stays valid with a block to which no path leads, whatever it reads.
func TestReadWhereNobodyComes(t *testing.T) {
	m := &maker{Rand: rand.New(rand.NewSource(145))}
	for range 2000 {
		p := m.someValid(t)
		f := &p.Funcs[m.Intn(len(p.Funcs))]
		m.p, m.many, m.regs = &p, len(f.Blocks)+1, []int{0, 1, 2, 5, 64, 4000, 4095}
		f.Blocks = append(f.Blocks, api.Block{Name: "nowhere", Ins: m.block(0)})
		f.Regs = regsOf(*f)
		valid(t, p)
	}
}
