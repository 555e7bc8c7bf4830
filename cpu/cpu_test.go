package cpu

import (
	"math"
	"math/rand"
	"slices"
	"strconv"
	"testing"

	"aedicule/api"
	"aedicule/space"
)

const (
	codeAt   = 0x400 // where most tests have a page that may be fetched alone
	dataAt   = 0x800 // and one that may be read and written
	lastPage = api.MaxSpace - api.PageSize
)

// notRegs: numbers of no register; most of them would be one if they were cut to fewer bits.
var notRegs = []int{-1, -2, -15, -16, -256, 16, 17, 31, 32, 255, 256, 1 << 16, math.MaxInt32, 1 << 32, 1<<32 + 1, math.MaxInt64, math.MinInt32, math.MinInt64}

// name: what a test tells of an instruction.
func name(x api.Insn) string {
	s := "op"
	for _, v := range []uint32{uint32(x.Op), uint32(x.D), uint32(x.A), uint32(x.B), x.Imm} {
		s += " " + strconv.FormatUint(uint64(v), 16)
	}
	return s
}

// with: a machine that has a page of code that begins with those instructions, and a page of data; its pc is at the code.
func with(t *testing.T, l ...api.Insn) machine {
	t.Helper()
	return machineAt(t, codeAt).page(t, codeAt, api.PermX).put(t, codeAt, code(l...)).page(t, dataAt, api.PermR|api.PermW)
}

// reg: what register n has.
func reg(t *testing.T, c *Cpu, n int) uint32 {
	t.Helper()
	v, e := c.Reg(n)
	is(t, "Reg", e, api.OK)
	return v
}

// regIs: that register n has v.
func regIs(t *testing.T, what string, c *Cpu, n int, v uint32) {
	t.Helper()
	if got := reg(t, c, n); got != v {
		t.Fatalf("%s: register %d is %#x; want %#x", what, n, got, v)
	}
}

// pcIs: that the pc is that.
func pcIs(t *testing.T, what string, c *Cpu, pc uint32) {
	t.Helper()
	if got := c.Pc(); got != pc {
		t.Fatalf("%s: pc %#x; want %#x", what, got, pc)
	}
}

// P6.1, P6.2: the chapter's examples.
func TestExamples(t *testing.T) {
	m := space.New()
	is(t, "Map", m.Map(0, api.PermX), api.OK)
	is(t, "Set", m.Set(0, code(api.Insn{Op: api.OpLi, D: 1, Imm: 5}, api.Insn{Op: api.OpAddi, A: 1, Imm: 1}, api.Insn{Op: api.OpSys, Imm: 9})), api.OK)
	c := New(0)
	s, steps := c.Run(m, 9)
	stops(t, "Run(9)", s, api.Stop{Kind: api.StopSys, Num: 9})
	if steps != 3 {
		t.Fatalf("%d steps; want 3", steps)
	}
	regIs(t, "Run(9)", c, 1, 5)
	regIs(t, "Run(9)", c, 0, 0)
	pcIs(t, "Run(9)", c, 24)

	is(t, "Set", m.Set(0, code(api.Insn{Op: api.OpJal, D: 15, Imm: 1 << 20})), api.OK)
	c = New(0)
	stops(t, "OpJal", c.Step(m), api.Stop{})
	regIs(t, "OpJal", c, 15, 8)
	stops(t, "behind OpJal", c.Step(m), api.Stop{Kind: api.StopFault, Why: api.ErrFault})
	pcIs(t, "behind OpJal", c, 1<<20)
}

// P6.1: New: that pc, whatever it is, all registers 0, and nothing that two cpus share.
func TestNew(t *testing.T) {
	for _, pc := range edges {
		c, d := New(pc), New(pc)
		pcIs(t, "New", c, pc)
		for n := range 16 {
			regIs(t, "New", c, n, 0)
			is(t, "SetReg", d.SetReg(n, 9), api.OK)
			is(t, "SetPc", d.SetPc(pc+1), api.OK)
		}
		for n := range 16 {
			regIs(t, "New, another one changed", c, n, 0)
		}
		pcIs(t, "New, another one changed", c, pc)
	}
}

// P6.1: Reg and SetReg: each register has what it was set to, and register 0 remains 0; what is not set remains.
func TestReg(t *testing.T) {
	c := New(77)
	var want [16]uint32
	for i, v := range append(edges, 0xdeadbeef, 0) {
		for n := range 16 {
			is(t, "SetReg", c.SetReg(n, v+uint32(n*i)), api.OK)
			if n != 0 {
				want[n] = v + uint32(n*i)
			}
			for k := range 16 {
				regIs(t, "SetReg("+strconv.Itoa(n)+")", c, k, want[k])
			}
			pcIs(t, "SetReg", c, 77)
		}
	}
}

// P6.1: Reg and SetReg: numbers of no register, with nothing answered and nothing changed.
func TestNotReg(t *testing.T) {
	x := machineAt(t, 8)
	for _, n := range notRegs {
		if v, e := x.c.Reg(n); v != 0 || e != api.ErrArg {
			t.Errorf("Reg(%d): %d, %v", n, v, e)
		}
		is(t, "SetReg("+strconv.Itoa(n)+")", x.c.SetReg(n, 5), api.ErrArg)
		x.holds(t, "SetReg("+strconv.Itoa(n)+")")
	}
}

// P6.1: Pc and SetPc: any number, and the registers remain.
func TestPc(t *testing.T) {
	x := machineAt(t, 8)
	for _, pc := range edges {
		x.goTo(t, pc).holds(t, "SetPc")
	}
}

// P6.1: Copy: equal, and neither is changed with the other, by whatever changes it.
func TestCopy(t *testing.T) {
	li := api.Insn{Op: api.OpLi, D: 3, Imm: 1}
	changes := map[string]func(x machine){
		"SetReg": func(x machine) { x.set(t, 15, 9) },
		"SetPc":  func(x machine) { x.goTo(t, most) },
		"Step":   func(x machine) { x.step(t, "Step") },
		"Run":    func(x machine) { x.run(t, "Run", 2) },
	}
	for what, change := range changes {
		x := with(t, li, api.Insn{Op: api.OpJal, D: 4, Imm: 9})
		y := x.copied()
		y.holds(t, "a copy")
		change(y)
		y.holds(t, what+": the changed copy")
		x.holds(t, what+": the original of a changed copy")
		change(x)
		x.holds(t, what+": the changed original")
		y.holds(t, what+": the copy, changed alike")
		x.set(t, 1, 5).goTo(t, 6)
		y.holds(t, what+": the copy of what was changed again")
		y.copied().holds(t, what+": the copy's copy")
	}
	for n := range 16 {
		regIs(t, "the copy of a new cpu", New(3).Copy(), n, 0)
	}
	pcIs(t, "the copy of a new cpu", New(3).Copy(), 3)
}

// results: what operations come to, ordinarily and at their edges.
var results = []struct {
	op         uint8
	a, b, want uint32
}{
	{api.OpAdd, 2, 3, 5}, {api.OpAdd, most, 1, 0}, {api.OpAdd, most, most, most - 1}, {api.OpAdd, top, top, 0}, {api.OpAdd, 0, 0, 0},
	{api.OpSub, 5, 3, 2}, {api.OpSub, 3, 5, most - 1}, {api.OpSub, 0, 1, most}, {api.OpSub, 0, most, 1}, {api.OpSub, top, 1, top - 1}, {api.OpSub, 7, 7, 0},
	{api.OpMul, 6, 7, 42}, {api.OpMul, 1 << 16, 1 << 16, 0}, {api.OpMul, most, most, 1}, {api.OpMul, most, 2, most - 1}, {api.OpMul, top, 3, top}, {api.OpMul, 9, 0, 0},
	{api.OpDivu, 42, 5, 8}, {api.OpDivu, 7, 0, most}, {api.OpDivu, 0, 0, most}, {api.OpDivu, most, top, 1}, {api.OpDivu, top, most, 0}, {api.OpDivu, most, 1, most},
	{api.OpRemu, 42, 5, 2}, {api.OpRemu, 7, 0, 7}, {api.OpRemu, most, 0, most}, {api.OpRemu, most, top, top - 1}, {api.OpRemu, top, most, top},
	{api.OpAnd, 12, 10, 8}, {api.OpAnd, most, 0x12345678, 0x12345678}, {api.OpAnd, top, top - 1, 0},
	{api.OpOr, 12, 10, 14}, {api.OpOr, top, top - 1, most}, {api.OpOr, 0, 0, 0},
	{api.OpXor, 12, 10, 6}, {api.OpXor, most, most, 0}, {api.OpXor, most, 0, most},
	{api.OpShl, 1, 4, 16}, {api.OpShl, 3, 0, 3}, {api.OpShl, 3, 31, top}, {api.OpShl, 3, 32, 3}, {api.OpShl, 3, 33, 6}, {api.OpShl, 1, most, top}, {api.OpShl, most, 4, most - 15},
	{api.OpShr, 256, 4, 16}, {api.OpShr, top, 0, top}, {api.OpShr, top, 31, 1}, {api.OpShr, top, 32, top}, {api.OpShr, most, 33, top - 1}, {api.OpShr, most, most, 1},
	{api.OpSar, 256, 4, 16}, {api.OpSar, top, 0, top}, {api.OpSar, top, 31, most}, {api.OpSar, top, 32, top}, {api.OpSar, top, 33, 3 << 30}, {api.OpSar, top - 1, 30, 1}, {api.OpSar, most, 5, most},
	{api.OpSlt, 2, 3, 1}, {api.OpSlt, 3, 2, 0}, {api.OpSlt, 3, 3, 0}, {api.OpSlt, most, 0, 1}, {api.OpSlt, 0, most, 0}, {api.OpSlt, top, top - 1, 1}, {api.OpSlt, top - 1, top, 0}, {api.OpSlt, top, most, 1},
	{api.OpSltu, 2, 3, 1}, {api.OpSltu, 3, 2, 0}, {api.OpSltu, 3, 3, 0}, {api.OpSltu, most, 0, 0}, {api.OpSltu, 0, most, 1}, {api.OpSltu, top, top - 1, 0}, {api.OpSltu, top - 1, top, 1},
	{api.OpSeq, 5, 5, 1}, {api.OpSeq, 5, 6, 0}, {api.OpSeq, most, most, 1}, {api.OpSeq, 0, top, 0}, {api.OpSeq, 0, 0, 1},
}

// P6.2: OpAdd to OpSeq on two registers, and those of them that there are on a register and a number.
func TestOperations(t *testing.T) {
	for _, r := range results {
		forms := []api.Insn{{Op: r.op, D: 3, A: 1, B: 2}}
		for _, op := range ops() {
			if plain(op) == r.op {
				forms = append(forms, api.Insn{Op: op, D: 3, A: 1, Imm: r.b})
			}
		}
		for _, i := range forms {
			x := with(t, i).set(t, 1, r.a).set(t, 2, r.b)
			stops(t, name(i), x.step(t, name(i)), api.Stop{})
			regIs(t, name(i), x.c, 3, r.want)
			regIs(t, name(i), x.c, 1, r.a)
			regIs(t, name(i), x.c, 2, r.b)
			pcIs(t, name(i), x.c, codeAt+8)
		}
	}
}

// P6.2: each op that computes or branches, on all pairs of edges.
func TestEdges(t *testing.T) {
	x := with(t)
	for _, op := range ops() {
		u := uses(op)
		if u != "DAB" && plain(op) == 0 && u != "ABI" || op == api.OpSb || op == api.OpSw {
			continue
		}
		for _, a := range edges {
			for _, b := range edges {
				i := api.Insn{Op: op, D: 3, A: 1, B: 2}
				if u == "DAI" {
					i.B, i.Imm = 0, b
				}
				if u == "ABI" {
					i.D, i.Imm = 0, a^b^0x5a5a
				}
				x.goTo(t, codeAt).put(t, codeAt, code(i)).set(t, 1, a).set(t, 2, b)
				stops(t, name(i), x.c.Step(x.m), x.l.step())
				x.cpuHolds(t, name(i))
			}
		}
	}
	x.holds(t, "in the end")
}

// P6.2: OpLi: any number, and no register that it does not name.
func TestLi(t *testing.T) {
	for _, v := range edges {
		for d := range uint8(16) {
			i := api.Insn{Op: api.OpLi, D: d, Imm: v}
			x := with(t, i)
			stops(t, name(i), x.step(t, name(i)), api.Stop{})
			want := v
			if d == 0 {
				want = 0
			}
			regIs(t, name(i), x.c, int(d), want)
			pcIs(t, name(i), x.c, codeAt+8)
		}
	}
}

// upTo: the numbers of registers that a part of an instruction may have: all, if its op uses it, else 0.
func upTo(op uint8, part string) uint8 {
	for _, c := range uses(op) {
		if string(c) == part {
			return 16
		}
	}
	return 1
}

// P6.2: each op with all registers there are as D, as A and as B: register 0, and the same one twice or thrice, among them.
func TestRegisters(t *testing.T) {
	for _, op := range ops() {
		x := with(t).page(t, 0, api.PermR|api.PermW).page(t, dataAt+256, api.PermR|api.PermW)
		for d := range upTo(op, "D") {
			for a := range upTo(op, "A") {
				for b := range upTo(op, "B") {
					i := api.Insn{Op: op, D: d, A: a, B: b}
					if upTo(op, "I") > 1 {
						i.Imm = 0x37
					}
					for n := range 16 {
						x.set(t, n, uint32(dataAt+0x0d*n))
					}
					x.goTo(t, codeAt).put(t, codeAt, code(i))
					stops(t, name(i), x.c.Step(x.m), x.l.step())
					x.cpuHolds(t, name(i))
				}
			}
		}
		x.holds(t, "in the end")
	}
}

// P6.2: what goes to register 0 is discarded, and what comes of it is 0: each op that has a D.
func TestRegisterZero(t *testing.T) {
	for _, op := range ops() {
		if upTo(op, "D") == 1 {
			continue
		}
		i := api.Insn{Op: op}
		if upTo(op, "A") > 1 {
			i.A = 1
		}
		if upTo(op, "B") > 1 {
			i.B = 2
		}
		if upTo(op, "I") > 1 {
			i.Imm = 3
		}
		x := with(t, i, api.Insn{Op: api.OpAdd, D: 5}).set(t, 1, dataAt+9).set(t, 2, 1)
		stops(t, name(i), x.step(t, name(i)), api.Stop{})
		regIs(t, name(i), x.c, 0, 0)
		x.goTo(t, codeAt+8).step(t, "the sum of register 0 and itself")
		regIs(t, "the sum of register 0 and itself", x.c, 5, 0)
	}
}

// P6.2: D is what A or B was: the previous values count.
func TestSameRegister(t *testing.T) {
	for _, r := range []struct {
		i    api.Insn
		want uint32
	}{
		{api.Insn{Op: api.OpSub, D: 1, A: 1, B: 2}, 7}, {api.Insn{Op: api.OpSub, D: 2, A: 1, B: 2}, 7}, {api.Insn{Op: api.OpSub, D: 1, A: 1, B: 1}, 0},
		{api.Insn{Op: api.OpShl, D: 2, A: 2, B: 2}, 3 << 3}, {api.Insn{Op: api.OpMuli, D: 1, A: 1, Imm: 5}, 50}, {api.Insn{Op: api.OpSltui, D: 1, A: 1, Imm: 11}, 1},
		{api.Insn{Op: api.OpLw, D: 1, A: 1, Imm: dataAt - 10}, 0x04030201}, {api.Insn{Op: api.OpLb, D: 1, A: 1, Imm: dataAt - 9}, 2},
	} {
		x := with(t, r.i).put(t, dataAt, "\x01\x02\x03\x04").set(t, 1, 10).set(t, 2, 3)
		stops(t, name(r.i), x.step(t, name(r.i)), api.Stop{})
		regIs(t, name(r.i), x.c, int(r.i.D), r.want)
	}
}

// P6.2: each branch, taken and not taken; by orders without a sign.
func TestBranches(t *testing.T) {
	ways := []uint8{api.OpBeq, api.OpBne, api.OpBltu, api.OpBgeu}
	for _, r := range []struct {
		a, b  uint32
		taken [4]bool
	}{
		{5, 5, [4]bool{true, false, false, true}}, {4, 5, [4]bool{false, true, true, false}}, {5, 4, [4]bool{false, true, false, true}},
		{0, 0, [4]bool{true, false, false, true}}, {0, most, [4]bool{false, true, true, false}}, {most, 0, [4]bool{false, true, false, true}},
		{top - 1, top, [4]bool{false, true, true, false}}, {top, top - 1, [4]bool{false, true, false, true}}, {most, most, [4]bool{true, false, false, true}},
	} {
		for k, op := range ways {
			for _, to := range append(edges, codeAt, codeAt+8, codeAt+16) {
				i := api.Insn{Op: op, A: 1, B: 2, Imm: to}
				x := with(t, i).set(t, 1, r.a).set(t, 2, r.b)
				stops(t, name(i), x.step(t, name(i)), api.Stop{})
				want := uint32(codeAt + 8)
				if r.taken[k] {
					want = to
				}
				pcIs(t, name(i), x.c, want)
			}
		}
	}
}

// P6.2: jumps to any number; OpJal keeps where it came from, but in register 0; what is no code faults only then, and there.
func TestJumps(t *testing.T) {
	for _, to := range append(edges, codeAt, codeAt+8, codeAt+1) {
		for _, i := range []api.Insn{{Op: api.OpJmp, Imm: to}, {Op: api.OpJr, A: 7}, {Op: api.OpJal, Imm: to}, {Op: api.OpJal, D: 7, Imm: to}, {Op: api.OpJal, D: 15, Imm: to}} {
			x := with(t, i).set(t, 7, to)
			stops(t, name(i), x.step(t, name(i)), api.Stop{})
			pcIs(t, name(i), x.c, to)
			if i.Op == api.OpJal {
				want := uint32(codeAt + 8)
				if i.D == 0 {
					want = 0
				}
				regIs(t, name(i), x.c, int(i.D), want)
			}
			if to < codeAt || to > codeAt+8 {
				stops(t, name(i), x.step(t, "behind a jump"), faulted(api.ErrFault))
				pcIs(t, "behind a jump", x.c, to)
			}
		}
	}
	i := api.Insn{Op: api.OpJr}
	x := with(t, i)
	stops(t, "OpJr by register 0", x.step(t, name(i)), api.Stop{})
	pcIs(t, "OpJr by register 0", x.c, 0)
}

// P6.2: loads and stores, by what they take and write.
func TestBytes(t *testing.T) {
	const next = dataAt + 256
	for _, r := range []struct {
		i    api.Insn
		a, b uint32
		want uint32 // register 3
		at   uint32
		s    string // the bytes there
	}{
		{i: api.Insn{Op: api.OpLb, D: 3, A: 1}, a: dataAt, want: 0x81, at: dataAt, s: "\x81\x02\x83\x04"},
		{i: api.Insn{Op: api.OpLb, D: 3, A: 1, Imm: 255}, a: dataAt, want: 0xfd, at: dataAt + 253, s: "\x81\xfe\xfd\xfc"},
		{i: api.Insn{Op: api.OpLw, D: 3, A: 1}, a: dataAt, want: 0x04830281, at: dataAt, s: "\x81\x02\x83\x04"},
		{i: api.Insn{Op: api.OpLw, D: 3, A: 1, Imm: 1}, a: dataAt, want: 0xfc048302, at: dataAt, s: "\x81\x02\x83\x04\xfc"},
		{i: api.Insn{Op: api.OpLw, D: 3, A: 1, Imm: 252}, a: dataAt, want: 0xfcfdfe81, at: next - 4, s: "\x81\xfe\xfd\xfc"},
		{i: api.Insn{Op: api.OpLw, D: 3, A: 1, Imm: 253}, a: dataAt, want: 0x21fcfdfe, at: next - 4, s: "\x81\xfe\xfd\xfc\x21"},
		{i: api.Insn{Op: api.OpLw, D: 3, A: 1, Imm: 255}, a: dataAt, want: 0x030221fc, at: next - 1, s: "\xfc\x21\x02\x03"},
		{i: api.Insn{Op: api.OpLw, D: 3, A: 1, Imm: dataAt + 16}, a: most - 15, want: 0x04030201, at: dataAt, s: "\x01\x02\x03\x04"},
		{i: api.Insn{Op: api.OpLb, D: 3, A: 1, Imm: most}, a: dataAt + 1, want: 0x01, at: dataAt, s: "\x01\x02\x03\x04"},
		{i: api.Insn{Op: api.OpLw, D: 3, Imm: dataAt}, a: 99, want: 0x04030201, at: dataAt, s: "\x01\x02\x03\x04"},
		{i: api.Insn{Op: api.OpLb, D: 3, Imm: dataAt}, a: 99, want: 0x00, at: dataAt, s: "\x00\x02\x03\x04"},
	} {
		x := with(t, r.i).page(t, next, api.PermR).put(t, r.at, r.s).set(t, 1, r.a)
		stops(t, name(r.i), x.step(t, name(r.i)), api.Stop{})
		regIs(t, name(r.i), x.c, 3, r.want)
		pcIs(t, name(r.i), x.c, codeAt+8)
	}
	for _, r := range []struct {
		i    api.Insn
		a, b uint32
		at   uint32
		s    string // the bytes there
	}{
		{api.Insn{Op: api.OpSb, A: 1, B: 2}, dataAt, 0x87654321, dataAt, "\x21...."},
		{api.Insn{Op: api.OpSb, A: 1, B: 2, Imm: 255}, dataAt, 0xffffff00, next - 1, "\x00...."},
		{api.Insn{Op: api.OpSw, A: 1, B: 2}, dataAt, 0x87654321, dataAt, "\x21\x43\x65\x87."},
		{api.Insn{Op: api.OpSw, A: 1, B: 2, Imm: 253}, dataAt, 0x87654321, next - 3, "\x21\x43\x65\x87."},
		{api.Insn{Op: api.OpSw, A: 1, B: 2, Imm: 255}, dataAt, 0x01000000, next - 1, "\x00\x00\x00\x01."},
		{api.Insn{Op: api.OpSw, A: 1, B: 2, Imm: dataAt + 16}, most - 15, 1, dataAt, "\x01\x00\x00\x00."},
		{api.Insn{Op: api.OpSb, A: 1, B: 2, Imm: most}, dataAt + 1, 1, dataAt, "\x01...."},
		{api.Insn{Op: api.OpSw, A: 1, Imm: 0}, dataAt, 1, dataAt, "\x00\x00\x00\x00."},
		{api.Insn{Op: api.OpSb, A: 1, Imm: 0}, dataAt, 1, dataAt, "\x00...."},
		{api.Insn{Op: api.OpSw, B: 2, Imm: dataAt}, 99, top, dataAt, "\x00\x00\x00\x80."},
		{api.Insn{Op: api.OpSw, A: 1, B: 1}, dataAt, 99, dataAt, "\x00\x08\x00\x00."},
	} {
		x := with(t, r.i).page(t, next, api.PermR|api.PermW).put(t, r.at, ".....").set(t, 1, r.a).set(t, 2, r.b)
		stops(t, name(r.i), x.step(t, name(r.i)), api.Stop{})
		if s, e := x.m.Look(r.at, 5); s != r.s || e != api.OK {
			t.Fatalf("%s: %q, %v; want %q", name(r.i), s, e, r.s)
		}
		pcIs(t, name(r.i), x.c, codeAt+8)
	}
}

// touch: each load and store at that address, once by Imm alone, once by A and Imm whose sum passes 2^32, and to register 0.
func touch(t *testing.T, x machine, addr uint32) {
	t.Helper()
	for _, i := range []api.Insn{{Op: api.OpLb, D: 3}, {Op: api.OpLw, D: 3}, {Op: api.OpLb}, {Op: api.OpLw}, {Op: api.OpSb, B: 3}, {Op: api.OpSw, B: 3}} {
		i.Imm = addr
		x.goTo(t, codeAt).put(t, codeAt, code(i)).step(t, name(i))
		i.A, i.Imm = 1, addr+9
		x.goTo(t, codeAt).put(t, codeAt, code(i)).set(t, 1, most-8).set(t, 3, 0x9abcdef1).step(t, name(i))
	}
}

// P6.2, P6.3: loads and stores around the ends of two pages that permit whatever there is, or of which one is none: done, or a fault that leaves all as it was.
func TestPermissions(t *testing.T) {
	const none = 8
	for first := range uint8(none + 1) {
		for second := range uint8(none + 1) {
			x := with(t)
			if first != none {
				x.page(t, 0x1000, first)
			}
			if second != none {
				x.page(t, 0x1100, second)
			}
			for _, addr := range []uint32{0xffc, 0xffd, 0xfff, 0x1000, 0x1080, 0x10fb, 0x10fc, 0x10fd, 0x10fe, 0x10ff, 0x1100, 0x11fc, 0x11fd, 0x11ff, 0x1200} {
				touch(t, x, addr)
			}
		}
	}
}

// P6.2: one permission alone lets bytes be read, one be written, and one be fetched.
func TestPermissionAlone(t *testing.T) {
	for perm := range uint8(8) {
		for _, r := range []struct {
			i    api.Insn
			need uint8
		}{{api.Insn{Op: api.OpLb, Imm: 0x1000}, api.PermR}, {api.Insn{Op: api.OpLw, Imm: 0x1000}, api.PermR}, {api.Insn{Op: api.OpSb, Imm: 0x1000}, api.PermW}, {api.Insn{Op: api.OpSw, Imm: 0x1000}, api.PermW}, {api.Insn{Op: api.OpJmp, Imm: 0x1000}, api.PermX}} {
			want := api.Stop{}
			if perm&r.need == 0 {
				want = faulted(api.ErrFault)
			}
			x := with(t, r.i).page(t, 0x1000, perm).put(t, 0x1000, code(api.Insn{Op: api.OpLi}))
			got := x.step(t, name(r.i))
			if r.need == api.PermX {
				got = x.step(t, "there")
			}
			stops(t, name(r.i), got, want)
		}
	}
}

// P6.2: loads and stores at the last addresses of a space and of numbers: addresses do not wrap around within one.
func TestLastBytes(t *testing.T) {
	x := with(t).page(t, 0, api.PermR|api.PermW).page(t, lastPage, api.PermR|api.PermW)
	for _, addr := range []uint32{0, api.MaxSpace - 5, api.MaxSpace - 4, api.MaxSpace - 3, api.MaxSpace - 2, api.MaxSpace - 1, api.MaxSpace, api.MaxSpace + 1, api.MaxSpace + 256, 1 << 24, top - 1, top, most - 256, most - 4, most - 3, most - 2, most - 1, most} {
		touch(t, x, addr)
	}
}

// P6.2, P6.3: a fault of each load and store, spelt out: registers, pc and bytes are as before.
func TestFaultLeavesAll(t *testing.T) {
	for _, i := range []api.Insn{{Op: api.OpLb, D: 1, A: 2, Imm: 3}, {Op: api.OpLw, D: 1, A: 2, Imm: 3}, {Op: api.OpLw, D: 1, A: 3}, {Op: api.OpLw, A: 2, Imm: 3}, {Op: api.OpSb, A: 2, B: 1, Imm: 3}, {Op: api.OpSw, A: 2, B: 1, Imm: 3}, {Op: api.OpSw, A: 3, B: 1}} {
		x := with(t, i).set(t, 1, 5).set(t, 2, dataAt+253).set(t, 3, dataAt+253)
		for range 3 {
			stops(t, name(i), x.c.Step(x.m), api.Stop{Kind: api.StopFault, Why: api.ErrFault})
			x.holds(t, name(i))
			pcIs(t, name(i), x.c, codeAt)
			regIs(t, name(i), x.c, 1, 5)
		}
	}
}

// P6.2: a step from each place around the ends of two pages that permit whatever there is, or of which one is none.
func TestFetch(t *testing.T) {
	const none = 8
	for first := range uint8(none + 1) {
		for second := range uint8(none + 1) {
			for _, pc := range []uint32{0xff8, 0xff9, 0xfff, 0x1000, 0x1001, 0x10f7, 0x10f8, 0x10f9, 0x10fa, 0x10fb, 0x10fc, 0x10fd, 0x10fe, 0x10ff, 0x1100, 0x11f8, 0x11f9, 0x1200} {
				x := machineAt(t, pc)
				if first != none {
					x.page(t, 0x1000, first)
				}
				if second != none {
					x.page(t, 0x1100, second)
				}
				s := code(api.Insn{Op: api.OpLi, D: 3, Imm: 0x12345678})
				for k := range uint32(8) {
					if _, ok := x.m.Perm(pc + k); ok {
						x.put(t, pc+k, s[k:k+1])
					}
				}
				want := faulted(api.ErrFault)
				a, _ := x.m.Perm(pc)
				b, _ := x.m.Perm(pc + 7)
				if a&b&api.PermX != 0 {
					want = api.Stop{}
				}
				stops(t, "Step", x.step(t, "Step"), want)
			}
		}
	}
}

// P6.2: a step at the last addresses of a space and of numbers: the pc goes on behind the space, and faults there.
func TestLastFetch(t *testing.T) {
	x := machineAt(t, lastPage).page(t, lastPage, api.PermX).page(t, 0, api.PermX)
	s := code(api.Insn{Op: api.OpLi, D: 3, Imm: 7})
	x.put(t, api.MaxSpace-8, s).put(t, 0, s).goTo(t, api.MaxSpace-8)
	stops(t, "the last step", x.step(t, "the last step"), api.Stop{})
	pcIs(t, "the last step", x.c, api.MaxSpace)
	for _, pc := range []uint32{api.MaxSpace - 7, api.MaxSpace - 1, api.MaxSpace, api.MaxSpace + 8, 1 << 24, top, most - 255, most - 8, most - 7, most - 6, most} {
		stops(t, "beyond", x.goTo(t, pc).step(t, "beyond"), faulted(api.ErrFault))
	}
	x.put(t, api.MaxSpace-8, code(api.Insn{Op: api.OpJal, D: 4, Imm: 5})).goTo(t, api.MaxSpace-8).step(t, "OpJal at the end")
	regIs(t, "OpJal at the end", x.c, 4, api.MaxSpace)
}

// P6.2: eight bytes that are no instruction: ErrForm, and all is as before; ErrFault is ahead of it.
func TestForm(t *testing.T) {
	for op := range 256 {
		if uses(uint8(op)) == "" {
			x := with(t, api.Insn{Op: uint8(op)})
			stops(t, "no op", x.step(t, "no op"), faulted(api.ErrForm))
			pcIs(t, "no op", x.c, codeAt)
		}
	}
	for _, op := range ops() {
		good := api.Insn{Op: op}
		for at := 1; at < 8; at++ {
			for _, v := range []byte{1, 15, 16, 17, 128, 240, 255} {
				b := []byte(code(good))
				b[at] = v
				x := with(t).put(t, codeAt, string(b))
				_, ok := decode(string(b))
				if s := x.step(t, name(good)); (s.Why == api.ErrForm) == ok {
					t.Fatalf("bytes %v: %+v", b, s)
				}
			}
		}
	}
	x := machineAt(t, 249).page(t, 0, api.PermX).put(t, 249, "\xff\xff\xff\xff\xff\xff\xff")
	stops(t, "neither fetched nor an instruction", x.step(t, "neither"), faulted(api.ErrFault))
}

// P6.2: OpSys: its number, and the pc behind it; nothing else.
func TestSys(t *testing.T) {
	for _, n := range edges {
		i := api.Insn{Op: api.OpSys, Imm: n}
		x := with(t, i, api.Insn{Op: api.OpLi, D: 1, Imm: 4})
		stops(t, name(i), x.step(t, name(i)), api.Stop{Kind: api.StopSys, Num: n})
		pcIs(t, name(i), x.c, codeAt+8)
		stops(t, name(i), x.step(t, "behind OpSys"), api.Stop{})
		regIs(t, name(i), x.c, 1, 4)
	}
}

// counting: a loop that adds 1 to register 1 and stores it, as often as register 2 says, and calls the system then; behind that no instruction.
func counting(t *testing.T, times uint32) machine {
	t.Helper()
	return with(t,
		api.Insn{Op: api.OpAddi, D: 1, A: 1, Imm: 1},
		api.Insn{Op: api.OpSw, A: 4, B: 1, Imm: 4},
		api.Insn{Op: api.OpBne, A: 1, B: 2, Imm: codeAt},
		api.Insn{Op: api.OpSys, Imm: 77},
		api.Insn{Op: api.OpLi, D: 3, Imm: 1},
		api.Insn{Op: 99},
	).set(t, 1, 0).set(t, 2, times).set(t, 4, dataAt)
}

// P6.2: Run: ended by n, by a call, by a fault, which does not count, wherever each comes.
func TestRun(t *testing.T) {
	sys, form := api.Stop{Kind: api.StopSys, Num: 77}, faulted(api.ErrForm)
	for _, r := range []struct {
		n     int
		s     api.Stop
		steps int
		pc    uint32
	}{
		{math.MinInt64, api.Stop{}, 0, codeAt}, {-1, api.Stop{}, 0, codeAt}, {0, api.Stop{}, 0, codeAt},
		{1, api.Stop{}, 1, codeAt + 8}, {2, api.Stop{}, 2, codeAt + 16}, {3, api.Stop{}, 3, codeAt}, {29, api.Stop{}, 29, codeAt + 16},
		{30, api.Stop{}, 30, codeAt + 24}, {31, sys, 31, codeAt + 32}, {32, sys, 31, codeAt + 32}, {1000, sys, 31, codeAt + 32}, {math.MaxInt64, sys, 31, codeAt + 32},
	} {
		x := counting(t, 10)
		s, steps := x.run(t, "Run("+strconv.Itoa(r.n)+")", r.n)
		stops(t, "Run", s, r.s)
		if steps != r.steps {
			t.Fatalf("Run(%d): %d steps; want %d", r.n, steps, r.steps)
		}
		pcIs(t, "Run", x.c, r.pc)
	}
	for _, r := range []struct {
		n     int
		s     api.Stop
		steps int
		pc    uint32
	}{{-1, api.Stop{}, 0, codeAt + 32}, {0, api.Stop{}, 0, codeAt + 32}, {1, api.Stop{}, 1, codeAt + 40}, {2, form, 1, codeAt + 40}, {3, form, 1, codeAt + 40}, {math.MaxInt64, form, 1, codeAt + 40}} {
		x := counting(t, 10).goTo(t, codeAt+32)
		s, steps := x.run(t, "Run to a fault", r.n)
		stops(t, "Run to a fault", s, r.s)
		if steps != r.steps {
			t.Fatalf("Run(%d) to a fault: %d steps; want %d", r.n, steps, r.steps)
		}
		pcIs(t, "Run to a fault", x.c, r.pc)
		x.goTo(t, codeAt+40)
		s, steps = x.run(t, "Run at a fault", r.n)
		if want := min(max(r.n, 0), 1) == 1; steps != 0 || s != form && want || s != (api.Stop{}) && !want {
			t.Fatalf("Run(%d) at a fault: %+v, %d steps", r.n, s, steps)
		}
	}
}

// P6.2: Run: a fault in place of each other instruction, by what may not be fetched, loaded or stored.
func TestRunToFaults(t *testing.T) {
	for _, i := range []api.Insn{{Op: api.OpLw, D: 3, Imm: 1}, {Op: api.OpLb, D: 3, Imm: codeAt}, {Op: api.OpSb, B: 3, Imm: codeAt}, {Op: api.OpSw, B: 3, Imm: dataAt + 253}, {Op: 0}, {Op: api.OpJmp, Imm: 7}} {
		for before := range 4 {
			l := slices.Repeat([]api.Insn{{Op: api.OpAddi, D: 1, A: 1, Imm: 1}}, before)
			x := with(t, append(l, i)...)
			want, why := before, api.ErrFault
			if i.Op == api.OpJmp {
				want++
			}
			if i.Op == 0 {
				why = api.ErrForm
			}
			s, steps := x.run(t, "Run to "+name(i), 9)
			stops(t, "Run to "+name(i), s, faulted(why))
			if steps != want {
				t.Fatalf("Run to %s: %d steps; want %d", name(i), steps, want)
			}
		}
	}
}

// P6.3: n steps and then m are n + m; and Run is as many Steps.
func TestRunInParts(t *testing.T) {
	for n := range 34 {
		for m := range 34 - n {
			x, y := counting(t, 10), counting(t, 10)
			whole, steps := x.run(t, "at once", n+m)
			first, some := y.run(t, "the first part", n)
			if first.Kind == api.StopNone {
				second, more := y.run(t, "the second part", m)
				if m > 0 {
					first = second
				}
				some += more
			}
			stops(t, "in parts", first, whole)
			if some != steps {
				t.Fatalf("%d and %d steps: %d; want %d", n, m, some, steps)
			}
			y.l = x.l
			y.holds(t, "in parts")
		}
		x := counting(t, 10)
		for range min(n, 31) {
			x.step(t, "one by one")
		}
		y := counting(t, 10)
		y.run(t, "at once", min(n, 31))
		y.l = x.l
		y.holds(t, "one by one")
	}
}

// P6.3: the same from the beginning is the same, and a copy goes the same way; neither touches the other's space.
func TestSameWay(t *testing.T) {
	for n := range 34 {
		x := counting(t, 10)
		x.run(t, "the original", n)
		y := x.copied()
		s, steps := x.run(t, "the original goes on", 9)
		y.copied().holds(t, "the copy waits")
		s2, steps2 := y.run(t, "the copy", 9)
		stops(t, "the copy", s2, s)
		if steps != steps2 {
			t.Fatalf("%d steps, the copy %d", steps, steps2)
		}
		y.l = x.l
		y.holds(t, "the copy")
	}
}

// P6.2: code that may be written is executed as it then is, also the instruction next to come, and the one that writes.
func TestCodeIsWritten(t *testing.T) {
	l := []api.Insn{
		{Op: api.OpLi, D: 1, Imm: 0x55},
		{Op: api.OpSb, B: 1, Imm: codeAt + 16 + 4}, // the next instruction's number
		{Op: api.OpLi, D: 2, Imm: 1},
		{Op: api.OpSb, B: 1, Imm: codeAt + 24}, // its own op
		{Op: api.OpJmp, Imm: codeAt + 24},
	}
	x := machineAt(t, codeAt).page(t, codeAt, 7).put(t, codeAt, code(l...))
	s, steps := x.run(t, "code that is written", 9)
	stops(t, "code that is written", s, faulted(api.ErrForm))
	if steps != 5 {
		t.Fatalf("%d steps; want 5", steps)
	}
	regIs(t, "code that is written", x.c, 2, 0x55)
	pcIs(t, "code that is written", x.c, codeAt+24)
}

// P6.2: a cpu and its space are two things: one cpu in two spaces, and two cpus in one.
func TestSpaces(t *testing.T) {
	x, y := counting(t, 3), counting(t, 3)
	y.put(t, codeAt, code(api.Insn{Op: api.OpLi, D: 9, Imm: 9}))
	stops(t, "in one space", x.c.Step(x.m), api.Stop{})
	regIs(t, "in one space", x.c, 1, 1)
	is(t, "SetPc", x.c.SetPc(codeAt), api.OK)
	stops(t, "in another space", x.c.Step(y.m), api.Stop{})
	regIs(t, "in another space", x.c, 9, 9)
	c, d := New(codeAt), New(codeAt)
	is(t, "SetReg", c.SetReg(2, 3), api.OK)
	is(t, "SetReg", d.SetReg(4, dataAt), api.OK)
	stops(t, "one of two", c.Step(x.m), api.Stop{})
	stops(t, "one of two", c.Step(x.m), faulted(api.ErrFault))
	d.Run(x.m, 2)
	if s, e := x.m.Look(dataAt+4, 4); s != "\x01\x00\x00\x00" || e != api.OK {
		t.Fatalf("by the other one: %q, %v", s, e)
	}
	regIs(t, "one of two", c, 1, 1)
}

// P6.1, P6.2, R3: a cpu that is nil, a space that is nil, and both.
func TestNil(t *testing.T) {
	var none *Cpu
	for _, n := range append(notRegs, 0, 1, 15) {
		if v, e := none.Reg(n); v != 0 || e != api.ErrNil {
			t.Errorf("Reg(%d): %d, %v", n, v, e)
		}
		is(t, "SetReg", none.SetReg(n, 5), api.ErrNil)
	}
	is(t, "SetPc", none.SetPc(8), api.ErrNil)
	pcIs(t, "nil", none, 0)
	if none.Copy() != nil {
		t.Error("Copy is not nil")
	}
	x := counting(t, 3)
	for _, r := range []struct {
		c *Cpu
		m *space.Space
	}{{none, x.m}, {x.c, nil}, {none, nil}} {
		stops(t, "Step", r.c.Step(r.m), api.Stop{Kind: api.StopFault, Why: api.ErrNil})
		for _, n := range []int{math.MinInt64, -1, 0, 1, 2, 1000, math.MaxInt64} {
			want := api.Stop{}
			if n > 0 {
				want = api.Stop{Kind: api.StopFault, Why: api.ErrNil}
			}
			s, steps := r.c.Run(r.m, n)
			stops(t, "Run("+strconv.Itoa(n)+")", s, want)
			if steps != 0 {
				t.Fatalf("Run(%d): %d steps", n, steps)
			}
		}
		x.holds(t, "behind nil")
	}
}

// seen: a machine's registers, its pc, and its bytes by their addresses.
type seen struct {
	regs  [16]uint32
	pc    uint32
	bytes map[uint32]byte
}

// look: what a machine has now.
func look(t *testing.T, c *Cpu, m *space.Space) seen {
	t.Helper()
	x := seen{pc: c.Pc(), bytes: map[uint32]byte{}}
	for n := range x.regs {
		x.regs[n] = reg(t, c, n)
	}
	for _, a := range m.Pages() {
		s, e := m.Look(a, 256)
		is(t, "Look", e, api.OK)
		for i := range len(s) {
			x.bytes[a+uint32(i)] = s[i]
		}
	}
	return x
}

// changed: how many registers differ, and where bytes do.
func (x seen) changed(y seen) (regs int, at []uint32) {
	for n := range x.regs {
		if x.regs[n] != y.regs[n] {
			regs++
		}
	}
	for a, v := range x.bytes {
		if y.bytes[a] != v {
			at = append(at, a)
		}
	}
	slices.Sort(at)
	return regs, at
}

// some: an instruction; most are valid, and most of their addresses are near the pages that there are.
func some(r *rand.Rand) api.Insn {
	l := ops()
	x := api.Insn{Op: l[r.Intn(len(l))]}
	if r.Intn(3) == 0 {
		x.Op = []uint8{api.OpLb, api.OpLw, api.OpSb, api.OpSw}[r.Intn(4)]
	}
	for i, p := range []*uint8{&x.D, &x.A, &x.B} {
		if upTo(x.Op, "DAB"[i:i+1]) > 1 {
			*p = uint8([]int{0, 1, 2, 3, 15, r.Intn(16)}[r.Intn(6)])
		}
	}
	if upTo(x.Op, "I") > 1 {
		x.Imm = []uint32{uint32(r.Intn(0x600)), uint32(r.Intn(0x600)) &^ 7, edges[r.Intn(len(edges))], r.Uint32(), -uint32(r.Intn(0x300))}[r.Intn(5)]
	}
	if r.Intn(40) == 0 {
		x.B = uint8(r.Intn(256))
	}
	return x
}

// randomly: a machine with pages of all kinds, filled with code, and registers near them.
func randomly(t *testing.T, r *rand.Rand) machine {
	t.Helper()
	x := machineAt(t, uint32(r.Intn(0x500))&^7)
	for a := uint32(0); a < 0x500; a += 256 {
		if perm := []uint8{7, 7, 7, 6, 5, 4, 3, uint8(r.Intn(8)), 8}[r.Intn(9)]; perm != 8 {
			var l []api.Insn
			for range 32 {
				l = append(l, some(r))
			}
			x.page(t, a, perm).put(t, a, code(l...))
		}
	}
	for n := range 16 {
		x.set(t, n, []uint32{uint32(r.Intn(0x600)), edges[r.Intn(len(edges))], r.Uint32()}[r.Intn(3)])
	}
	return x
}

// P6.2, P6.3: any code: each step is the model's, and changes at most one register, the pc, and 4 bytes that may be written; one that faults changes nothing.
func TestAnyCode(t *testing.T) {
	r := rand.New(rand.NewSource(6))
	for range 1500 {
		x := randomly(t, r)
		for range 12 {
			before := look(t, x.c, x.m)
			s := x.step(t, "any code")
			regs, at := before.changed(look(t, x.c, x.m))
			if regs > 1 || len(at) > 4 || len(at) > 0 && at[len(at)-1]-at[0] > 3 {
				t.Fatalf("a step changed %d registers, and bytes at %v", regs, at)
			}
			for _, a := range at {
				if p, _ := x.m.Perm(a); p&api.PermW == 0 {
					t.Fatalf("a step changed the byte at %#x, of perm %d", a, p)
				}
			}
			if s.Kind == api.StopFault {
				if regs != 0 || len(at) != 0 || x.c.Pc() != before.pc {
					t.Fatalf("a fault changed %d registers, bytes at %v, or the pc", regs, at)
				}
				break
			}
		}
	}
}

// P6.2, P6.3: any code, by Run in parts, with copies that go on by themselves.
func TestAnyRun(t *testing.T) {
	r := rand.New(rand.NewSource(7))
	for range 1500 {
		l := []machine{randomly(t, r)}
		for range 6 {
			x := l[r.Intn(len(l))]
			if r.Intn(3) == 0 {
				l = append(l, x.copied())
			}
			x.run(t, "any code", r.Intn(30)-1)
		}
		for _, x := range l {
			x.holds(t, "in the end")
		}
	}
}
