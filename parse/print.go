package parse

import (
	"strconv"
	"strings"

	"muntin/api"
	"muntin/lex"
)

const (
	open    = "{"
	shut    = "}"
	colon   = ":"
	space   = " "
	newline = "\n"

	// indent precedes instructions.
	indent = "  "

	// unknown is written for what does not exist.
	unknown = "?"
)

// Print writes a program as a source.
func Print(p api.Prog) string {
	var b strings.Builder
	put := func(words ...string) {
		b.WriteString(strings.Join(words, space))
		b.WriteString(newline)
	}
	put(heapWord, strconv.Itoa(p.Heap))
	for _, f := range p.Threads {
		put(threadWord, funcName(p, f))
	}
	for i, f := range p.Funcs {
		put(funcWord, f.Name, strconv.Itoa(f.Args), open)
		for _, block := range f.Blocks {
			put(block.Name + colon)
			for _, x := range block.Ins {
				put(indent + Line(p, i, x))
			}
		}
		put(shut)
	}
	return b.String()
}

// Line writes an instruction of the function with the index f as a line of a source.
func Line(p api.Prog, f int, x api.Ins) string {
	y := ins(x)
	word, ok := wordOf(y)
	if !ok {
		return unknown
	}
	w := &writer{p: p, f: f, line: []string{word}}
	for _, write := range fields(y.Op) {
		write(&y, w)
	}
	return strings.Join(w.line, space)
}

// writer collects the words of an instruction of the function with the index f.
type writer struct {
	p    api.Prog
	f    int
	line []string
}

func (w *writer) put(word string) { w.line = append(w.line, word) }

func (w *writer) reg(n *int) { w.put(lex.Reg(*n)) }

func (w *writer) regs(l *[]int) {
	for _, n := range *l {
		w.put(lex.Reg(n))
	}
}

func (w *writer) number(n *uint32) { w.put(strconv.FormatUint(uint64(*n), 10)) }

func (w *writer) funcIndex(index *int) { w.put(funcName(w.p, *index)) }

func (w *writer) blockIndex(index *int) { w.put(blockName(w.p, w.f, *index)) }

func funcName(p api.Prog, f int) string {
	if f < 0 || f >= len(p.Funcs) {
		return unknown
	}
	return p.Funcs[f].Name
}

func blockName(p api.Prog, f, b int) string {
	if f < 0 || f >= len(p.Funcs) || b < 0 || b >= len(p.Funcs[f].Blocks) {
		return unknown
	}
	return p.Funcs[f].Blocks[b].Name
}
