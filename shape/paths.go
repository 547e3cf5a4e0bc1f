package shape

import (
	"slices"

	"muntin/api"
)

// set is registers of a function, a bit each.
type set []uint64

// wide is how many registers are in an element of a set.
const wide = 64

// from returns the registers from low on, of many.
func from(low, many int) set {
	s := make(set, (many+wide-1)/wide)
	for r := low; r < many; r++ {
		s[r/wide] |= 1 << (r % wide)
	}
	return s
}

func (s set) has(r int) bool { return s[r/wide]>>(r%wide)&1 != 0 }

func (s set) remove(r int) { s[r/wide] &^= 1 << (r % wide) }

func (s set) isEmpty() bool {
	return !slices.ContainsFunc(s, func(w uint64) bool { return w != 0 })
}

// join puts the registers of another set into s, and reports whether s did not have all of them.
func (s set) join(other set) bool {
	grew := false
	for i, w := range other {
		grew = grew || w&^s[i] != 0
		s[i] |= w
	}
	return grew
}

// walk follows the paths of a function.
type walk struct {
	// missing has for each block the registers that some path to its beginning does not assign; a block that is reached
	// with all of them assigned is as good as one to which no path leads.
	missing []set
	// waiting are the blocks whose missing registers became more.
	waiting []int
}

// reach lets a path lead to a block, with registers that it does not assign.
func (w *walk) reach(b int, missing set) {
	if w.missing[b] == nil {
		w.missing[b] = make(set, len(missing))
	}
	if w.missing[b].join(missing) {
		w.waiting = append(w.waiting, b)
	}
}

// firstUnassigned returns the first block of a function with an instruction that reads a register which is not definitely
// assigned before it; if there is none, the number of blocks.
func firstUnassigned(f api.Func) int {
	first := len(f.Blocks)
	w := &walk{missing: make([]set, len(f.Blocks))}
	w.reach(0, from(f.Args, f.Regs))
blocks:
	for len(w.waiting) > 0 {
		b := w.waiting[0]
		w.waiting = w.waiting[1:]
		missing := slices.Clone(w.missing[b])
		for _, x := range f.Blocks[b].Ins {
			if slices.ContainsFunc(Reads(x), missing.has) {
				first = min(first, b)
			}
			if d, writes := Writes(x); writes {
				missing.remove(d)
				if missing.isEmpty() {
					continue blocks
				}
			}
			for _, to := range targets(x) {
				w.reach(to, missing)
			}
		}
	}
	return first
}
