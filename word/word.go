// Package word is layer 1: what the ALU, and the operations of the intermediate language, do with words. See shared/doc/01-word.md.
package word

import "muntin/api"

// operation is one of the ALU's operations. Those that divide have no result if b is 0.
type operation struct {
	result  func(a, b uint32) uint32
	divides bool
}

// Do returns the result of the operation for a and b, and whether there is one.
func Do(op uint8, a, b uint32) (uint32, bool) {
	all := operations()
	if int(op) >= len(all) {
		return 0, false
	}
	o := all[op]
	if o.divides && b == 0 {
		return 0, false
	}
	return o.result(a, b), true
}

func operations() [api.AlEq + 1]operation {
	return [...]operation{
		api.AlAdd: {result: func(a, b uint32) uint32 { return a + b }},
		api.AlSub: {result: func(a, b uint32) uint32 { return a - b }},
		api.AlMul: {result: func(a, b uint32) uint32 { return a * b }},
		// Go defines the lowest integer divided by -1: the quotient wraps round, the remainder is 0.
		api.AlDiv: {result: func(a, b uint32) uint32 { return uint32(int32(a) / int32(b)) }, divides: true},
		api.AlRem: {result: func(a, b uint32) uint32 { return uint32(int32(a) % int32(b)) }, divides: true},
		api.AlAnd: {result: func(a, b uint32) uint32 { return a & b }},
		api.AlOr:  {result: func(a, b uint32) uint32 { return a | b }},
		api.AlXor: {result: func(a, b uint32) uint32 { return a ^ b }},
		api.AlShl: {result: func(a, b uint32) uint32 { return a << places(b) }},
		api.AlShr: {result: func(a, b uint32) uint32 { return a >> places(b) }},
		api.AlSar: {result: func(a, b uint32) uint32 { return uint32(int32(a) >> places(b)) }},
		api.AlLt:  {result: func(a, b uint32) uint32 { return truth(int32(a) < int32(b)) }},
		api.AlLtu: {result: func(a, b uint32) uint32 { return truth(a < b) }},
		api.AlEq:  {result: func(a, b uint32) uint32 { return truth(a == b) }},
	}
}

// places returns by how many bits a shift by b shifts: the machine looks at the low 5 bits alone.
func places(b uint32) uint32 { return b & 31 }

func truth(is bool) uint32 {
	if is {
		return 1
	}
	return 0
}

// Flags returns the flags of a minus b.
func Flags(a, b uint32) uint8 {
	d := a - b
	exact := int64(int32(a)) - int64(int32(b))
	return combine(
		when(int32(d) < 0, api.FlN),
		when(d == 0, api.FlZ),
		when(exact != int64(int32(d)), api.FlV),
		when(a < b, api.FlC),
	)
}

func when(is bool, flag uint8) uint8 {
	if is {
		return flag
	}
	return 0
}

func combine(flags ...uint8) uint8 {
	var all uint8
	for _, f := range flags {
		all |= f
	}
	return all
}

// Holds reports whether the condition holds under the flags.
func Holds(cond, flags uint8) bool {
	zero := flags&api.FlZ != 0
	carry := flags&api.FlC != 0
	less := (flags&api.FlN != 0) != (flags&api.FlV != 0)
	switch cond {
	case api.CoAlways:
		return true
	case api.CoEq:
		return zero
	case api.CoNe:
		return !zero
	case api.CoLt:
		return less
	case api.CoGe:
		return !less
	case api.CoLtu:
		return carry
	case api.CoGeu:
		return !carry
	}
	return false
}
