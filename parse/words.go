package parse

import "muntin/api"

const (
	heapWord   = "heap"
	threadWord = "thread"
	funcWord   = "func"
)

// opWords are the words that instructions begin with, by their Ops; those of IrAlu have one for each operation instead.
var opWords = [...]string{
	api.IrConst: "const",
	api.IrMov:   "mov",
	api.IrLoad:  "load",
	api.IrStore: "store",
	api.IrCall:  "call",
	api.IrPrint: "print",
	api.IrYield: "yield",
	api.IrJmp:   "jmp",
	api.IrBr:    "br",
	api.IrRet:   "ret",
}

var aluWords = [...]string{
	api.AlAdd: "add",
	api.AlSub: "sub",
	api.AlMul: "mul",
	api.AlDiv: "div",
	api.AlRem: "rem",
	api.AlAnd: "and",
	api.AlOr:  "or",
	api.AlXor: "xor",
	api.AlShl: "shl",
	api.AlShr: "shr",
	api.AlSar: "sar",
	api.AlLt:  "lt",
	api.AlLtu: "ltu",
	api.AlEq:  "eq",
}

// named returns an instruction that begins with that word, and has nothing else yet.
func named(word string) (ins, bool) {
	for n, w := range aluWords {
		if w == word {
			return ins{Op: api.IrAlu, N: uint32(n)}, true
		}
	}
	for op, w := range opWords {
		if w == word {
			return ins{Op: uint8(op)}, true
		}
	}
	return ins{}, false
}

// wordOf returns the word that an instruction begins with, if there is one.
func wordOf(x ins) (string, bool) {
	if x.Op == api.IrAlu {
		if x.N >= uint32(len(aluWords)) {
			return "", false
		}
		return aluWords[x.N], true
	}
	if int(x.Op) >= len(opWords) {
		return "", false
	}
	return opWords[x.Op], true
}

// words reads what the fields of an instruction are from the words of a line, one after the other, or writes these.
type words interface {
	reg(n *int)
	regs(l *[]int)
	number(n *uint32)
	funcIndex(index *int)
	blockIndex(index *int)
}

// ins is an instruction whose fields are read, or written.
type ins api.Ins

func (x *ins) d(w words)    { w.reg(&x.D) }
func (x *ins) a(w words)    { w.reg(&x.A) }
func (x *ins) b(w words)    { w.reg(&x.B) }
func (x *ins) n(w words)    { w.number(&x.N) }
func (x *ins) f(w words)    { w.funcIndex(&x.F) }
func (x *ins) args(w words) { w.regs(&x.Args) }
func (x *ins) l1(w words)   { w.blockIndex(&x.L1) }
func (x *ins) l2(w words)   { w.blockIndex(&x.L2) }

// fields returns how what follows the first word of an instruction is read, or written, in its order.
func fields(op uint8) []func(x *ins, w words) {
	type list = []func(x *ins, w words)
	switch op {
	case api.IrConst:
		return list{(*ins).d, (*ins).n}
	case api.IrAlu:
		return list{(*ins).d, (*ins).a, (*ins).b}
	case api.IrMov, api.IrLoad:
		return list{(*ins).d, (*ins).a}
	case api.IrStore:
		return list{(*ins).a, (*ins).b}
	case api.IrCall:
		return list{(*ins).d, (*ins).f, (*ins).args}
	case api.IrPrint, api.IrRet:
		return list{(*ins).a}
	case api.IrJmp:
		return list{(*ins).l1}
	case api.IrBr:
		return list{(*ins).a, (*ins).l1, (*ins).l2}
	}
	return nil
}
