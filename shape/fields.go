package shape

import "muntin/api"

// fields is which of its fields an instruction has.
type fields struct{ d, a, b, n, f, args, l1, l2 bool }

// has returns which fields an instruction with that Op has.
func has(op uint8) fields {
	var h fields
	switch op {
	case api.IrAlu:
		h.d, h.n = true, true
		fallthrough
	case api.IrStore:
		h.b = true
		fallthrough
	case api.IrPrint, api.IrRet:
		h.a = true
	case api.IrBr:
		h.a, h.l2 = true, true
		fallthrough
	case api.IrJmp:
		h.l1 = true
	case api.IrConst:
		h.d, h.n = true, true
	case api.IrMov, api.IrLoad:
		h.d, h.a = true, true
	case api.IrCall:
		h.d, h.f, h.args = true, true, true
	}
	return h
}

// all reports whether an instruction has no other fields: those are 0.
func (h fields) all(x api.Ins) bool {
	return (h.d || x.D == 0) && (h.a || x.A == 0) && (h.b || x.B == 0) && (h.n || x.N == 0) &&
		(h.f || x.F == 0) && (h.args || len(x.Args) == 0) && (h.l1 || x.L1 == 0) && (h.l2 || x.L2 == 0)
}

// Reads returns the registers that an instruction reads: A, then B, then Args, as far as it has them.
func Reads(x api.Ins) []int {
	var l []int
	h := has(x.Op)
	if h.a {
		l = append(l, x.A)
	}
	if h.b {
		l = append(l, x.B)
	}
	if h.args {
		l = append(l, x.Args...)
	}
	return l
}

// Writes returns the register that an instruction writes, and true if it writes one.
func Writes(x api.Ins) (int, bool) {
	if !has(x.Op).d {
		return 0, false
	}
	return x.D, true
}

// Ends reports whether an instruction ends a block.
func Ends(x api.Ins) bool {
	return x.Op == api.IrJmp || x.Op == api.IrBr || x.Op == api.IrRet
}

// registers returns all registers that an instruction has.
func registers(x api.Ins) []int {
	l := Reads(x)
	if d, writes := Writes(x); writes {
		l = append(l, d)
	}
	return l
}

// targets returns the blocks that an instruction goes to.
func targets(x api.Ins) []int {
	var l []int
	h := has(x.Op)
	if h.l1 {
		l = append(l, x.L1)
	}
	if h.l2 {
		l = append(l, x.L2)
	}
	return l
}
