package mach

import (
	"muntin/api"
	"muntin/inst"
	"muntin/psr"
	"muntin/word"
)

const (
	wordBytes   = 4
	vectorBytes = 16
	lastLevel   = 15

	// sethiBits is how many bits of a word OpSethi leaves 0.
	sethiBits = 11
)

// Step executes a step with a level, of which one above 15 counts as 0, and returns the stop then.
func (m *Machine) Step(level uint8) api.Stop {
	if s := m.Stop(); s.Kind != api.StRun {
		return s
	}
	if level <= lastLevel && level > m.psr.Pil {
		m.interrupt(level)
	} else {
		m.execute()
	}
	return m.stop
}

func (m *Machine) interrupt(level uint8) {
	m.pc = m.enter(level, api.TrIrq+level, m.pc)
	m.psr.Pil = level
}

// enter takes a trap of a type to a bank, with a PC, and returns the PC after it.
func (m *Machine) enter(bank, kind uint8, pc uint32) uint32 {
	m.saved[bank] = saved{pc: pc, psr: m.state()}
	m.psr.Bank = bank
	return api.AtVectors + vectorBytes*uint32(kind)
}

// state returns the word of the state, which there always is.
func (m *Machine) state() uint32 {
	w, _ := psr.Pack(m.psr, m.file.NW())
	return w
}

func (m *Machine) execute() {
	w, e := m.mem.Load(m.pc, wordBytes)
	if e != api.OK {
		m.halt(api.StError, 0)
		return
	}
	i, is := inst.Decode(w)
	if !is {
		m.halt(api.StError, 0)
		return
	}
	effect := effects()[i.Op]
	m.pc = effect(execution{Machine: m, Inst: i, a: m.register(i.Rs1), b: m.second(i)})
}

// halt stops the machine, and returns the PC, which stays as it is then.
func (m *Machine) halt(kind uint8, v uint32) uint32 {
	m.stop = api.Stop{Kind: kind, V: v}
	return m.pc
}

func (m *Machine) second(i api.Inst) uint32 {
	if i.Is {
		return uint32(i.Imm)
	}
	return m.register(i.Rs2)
}

// register returns a register in the current window and bank. There is no error: the window and the bank of a valid state exist, and so do all registers of an instruction.
func (m *Machine) register(r uint8) uint32 {
	w, _ := m.file.Get(int(m.psr.Cwp), int(m.psr.Bank), int(r))
	return w
}

func (m *Machine) setRegister(r uint8, w uint32) {
	m.file.Set(int(m.psr.Cwp), int(m.psr.Bank), int(r), w)
}

// execution is an instruction that a machine executes, and what it works on, as that was before.
type execution struct {
	*Machine
	api.Inst
	a, b uint32
}

// effects are what the Ops do to the machine. Each returns the PC after it.
func effects() [api.OpFault + 1]func(execution) uint32 {
	return [...]func(execution) uint32{
		api.OpAlu + api.AlAdd: execution.alu,
		api.OpAlu + api.AlSub: execution.alu,
		api.OpAlu + api.AlMul: execution.alu,
		api.OpAlu + api.AlDiv: execution.alu,
		api.OpAlu + api.AlRem: execution.alu,
		api.OpAlu + api.AlAnd: execution.alu,
		api.OpAlu + api.AlOr:  execution.alu,
		api.OpAlu + api.AlXor: execution.alu,
		api.OpAlu + api.AlShl: execution.alu,
		api.OpAlu + api.AlShr: execution.alu,
		api.OpAlu + api.AlSar: execution.alu,
		api.OpAlu + api.AlLt:  execution.alu,
		api.OpAlu + api.AlLtu: execution.alu,
		api.OpAlu + api.AlEq:  execution.alu,
		api.OpSethi:           execution.sethi,
		api.OpCmp:             execution.compare,
		api.OpBr:              execution.branch,
		api.OpCall:            execution.call,
		api.OpJmpl:            execution.jump,
		api.OpSave:            execution.save,
		api.OpRestore:         execution.restore,
		api.OpLd:              execution.loadWord,
		api.OpSt:              execution.storeWord,
		api.OpLdb:             execution.loadByte,
		api.OpStb:             execution.storeByte,
		api.OpRdPsr:           execution.readState,
		api.OpWrPsr:           execution.writeState,
		api.OpRdWim:           execution.readWim,
		api.OpWrWim:           execution.writeWim,
		api.OpRdT:             execution.readSaved,
		api.OpWrT:             execution.writeSaved,
		api.OpRett:            execution.goBack,
		api.OpTrap:            execution.raise,
		api.OpChoice:          execution.choose,
		api.OpOut:             execution.output,
		api.OpHalt:            execution.end,
		api.OpFault:           execution.fault,
	}
}

func (x execution) following() uint32 { return x.pc + wordBytes }

// target returns the PC after a jump whose Imm counts instructions from itself on.
func (x execution) target() uint32 { return x.pc + wordBytes*uint32(x.Imm) }

func (x execution) sum() uint32 { return x.a + x.b }

// result sets rd, and returns the following PC.
func (x execution) result(w uint32) uint32 {
	x.setRegister(x.Rd, w)
	return x.following()
}

func (x execution) fail() uint32 { return x.halt(api.StError, 0) }

func (x execution) alu() uint32 {
	w, is := word.Do(x.Op-api.OpAlu, x.a, x.b)
	if !is {
		return x.halt(api.StFault, api.FaDiv)
	}
	return x.result(w)
}

func (x execution) sethi() uint32 { return x.result(uint32(x.Imm) << sethiBits) }

func (x execution) compare() uint32 {
	x.psr.Flags = word.Flags(x.a, x.b)
	return x.following()
}

func (x execution) branch() uint32 {
	if word.Holds(x.Rd, x.psr.Flags) {
		return x.target()
	}
	return x.following()
}

func (x execution) call() uint32 {
	x.setRegister(api.RA, x.pc)
	return x.target()
}

func (x execution) jump() uint32 {
	x.setRegister(x.Rd, x.pc)
	return x.sum()
}

func (x execution) save() uint32 {
	w, _ := psr.Ahead(int(x.psr.Cwp), x.file.NW())
	return x.turn(w, api.TrOver)
}

func (x execution) restore() uint32 {
	w, _ := psr.Next(int(x.psr.Cwp), x.file.NW())
	return x.turn(w, api.TrUnder)
}

// turn makes a window the current one, and sets rd in it; if the window is invalid it traps.
func (x execution) turn(window int, kind uint8) uint32 {
	if invalid, _ := psr.Invalid(x.wim, x.file.NW()); window == invalid {
		return x.trap(kind, x.pc)
	}
	x.psr.Cwp = uint8(window)
	return x.result(x.sum())
}

// trap takes a trap to the bank 16, which there is in the bank 0 only.
func (x execution) trap(kind uint8, pc uint32) uint32 {
	if x.psr.Bank != 0 {
		return x.fail()
	}
	return x.enter(api.BankTrap, kind, pc)
}

func (x execution) raise() uint32 { return x.trap(uint8(x.Imm), x.following()) }

func (x execution) loadWord() uint32 { return x.load(wordBytes) }

func (x execution) loadByte() uint32 { return x.load(1) }

func (x execution) load(many int) uint32 {
	w, e := x.mem.Load(x.sum(), many)
	if e != api.OK {
		return x.fail()
	}
	return x.result(w)
}

func (x execution) storeWord() uint32 { return x.store(wordBytes) }

func (x execution) storeByte() uint32 { return x.store(1) }

func (x execution) store(many int) uint32 {
	if e := x.mem.Store(x.sum(), many, x.register(x.Rd)); e != api.OK {
		return x.fail()
	}
	return x.following()
}

func (x execution) readState() uint32 { return x.result(x.state()) }

func (x execution) writeState() uint32 {
	p, e := psr.Unpack(x.sum(), x.file.NW())
	if e != api.OK {
		return x.fail()
	}
	x.psr = p
	return x.following()
}

func (x execution) readWim() uint32 { return x.result(x.wim) }

func (x execution) writeWim() uint32 {
	if x.SetWim(x.sum()) != api.OK {
		return x.fail()
	}
	return x.following()
}

func (x execution) readSaved() uint32 {
	if x.psr.Bank == 0 {
		return x.fail()
	}
	return x.result(*x.savedWord())
}

func (x execution) writeSaved() uint32 {
	if x.psr.Bank == 0 {
		return x.fail()
	}
	*x.savedWord() = x.a
	return x.following()
}

// savedWord returns the place of the bank's TPC, or of its TPSR.
func (x execution) savedWord() *uint32 {
	t := &x.saved[x.psr.Bank]
	if x.Imm == 0 {
		return &t.pc
	}
	return &t.psr
}

func (x execution) goBack() uint32 {
	if x.psr.Bank == 0 {
		return x.fail()
	}
	t := x.saved[x.psr.Bank]
	p, e := psr.Unpack(t.psr, x.file.NW())
	if e != api.OK {
		return x.fail()
	}
	x.psr = p
	return t.pc
}

func (x execution) choose() uint32 {
	if len(x.choices) == 0 {
		return x.result(0)
	}
	first := x.choices[0]
	x.choices = x.choices[1:]
	return x.result(first)
}

func (x execution) output() uint32 {
	x.out = append(x.out, x.a)
	return x.following()
}

func (x execution) end() uint32 { return x.halt(api.StHalt, x.a) }

func (x execution) fault() uint32 { return x.halt(api.StFault, uint32(x.Imm)) }
