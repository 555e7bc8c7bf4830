package cpu

import (
	"maps"
	"slices"
	"strings"
	"testing"

	"aedicule/api"
	"aedicule/space"
)

const (
	wide = 1 << 32
	most = wide - 1
	top  = 1 << 31
)

// edges: numbers at which operations, orders and addresses turn over.
var edges = []uint32{0, 1, 2, 7, 8, 31, 32, 33, 63, 64, 255, 256, 1<<16 - 1, 1 << 16, 1<<20 - 4, 1 << 20, top - 1, top, top + 1, most - 7, most - 1, most}

// cell: a byte of memory, and its page's perm.
type cell struct {
	value byte
	perm  uint8
}

// model: the chapter's machine, written anew: its numbers are wider than theirs and cut to 32 bits, its memory is single bytes by their addresses.
type model struct {
	regs  [16]uint64
	pc    uint64
	cells map[uint64]cell
}

// uses: what an op uses, by the table of layer 4; I is the number, and an empty text no op.
func uses(op uint8) string {
	switch op {
	case api.OpAdd, api.OpSub, api.OpMul, api.OpDivu, api.OpRemu, api.OpAnd, api.OpOr, api.OpXor, api.OpShl, api.OpShr, api.OpSar, api.OpSlt, api.OpSltu, api.OpSeq:
		return "DAB"
	case api.OpAddi, api.OpMuli, api.OpAndi, api.OpOri, api.OpXori, api.OpShli, api.OpShri, api.OpSltui, api.OpSeqi, api.OpLb, api.OpLw:
		return "DAI"
	case api.OpLi, api.OpJal:
		return "DI"
	case api.OpSb, api.OpSw, api.OpBeq, api.OpBne, api.OpBltu, api.OpBgeu:
		return "ABI"
	case api.OpJmp, api.OpSys:
		return "I"
	case api.OpJr:
		return "A"
	}
	return ""
}

// ops: those that there are.
func ops() []uint8 {
	var l []uint8
	for op := range 256 {
		if uses(uint8(op)) != "" {
			l = append(l, uint8(op))
		}
	}
	return l
}

// code: the bytes of instructions, whether they are valid or not.
func code(l ...api.Insn) string {
	var b []byte
	for _, x := range l {
		b = append(b, x.Op, x.D+16*x.A, x.B, 0, byte(x.Imm), byte(x.Imm>>8), byte(x.Imm>>16), byte(x.Imm>>24))
	}
	return string(b)
}

// decode: the instruction of eight bytes; false if there is none.
func decode(b string) (api.Insn, bool) {
	x := api.Insn{Op: b[0], D: b[1] % 16, A: b[1] / 16, B: b[2], Imm: uint32(b[4]) + uint32(b[5])<<8 + uint32(b[6])<<16 + uint32(b[7])<<24}
	u := uses(x.Op)
	ok := u != "" && b[3] == 0 && x.B < 16
	for part, v := range map[string]uint32{"D": uint32(x.D), "A": uint32(x.A), "B": uint32(x.B), "I": x.Imm} {
		ok = ok && (v == 0 || strings.Contains(u, part))
	}
	return x, ok
}

func signed(v uint64) int64 {
	if v >= top {
		return int64(v) - wide
	}
	return int64(v)
}

func truth(is bool) uint64 {
	if is {
		return 1
	}
	return 0
}

// operation: what layer 1 says of two numbers.
func operation(op uint8, a, b uint64) uint64 {
	switch op {
	case api.OpAdd:
		return (a + b) % wide
	case api.OpSub:
		return (wide + a - b) % wide
	case api.OpMul:
		return a * b % wide
	case api.OpDivu:
		if b == 0 {
			return most
		}
		return a / b
	case api.OpRemu:
		if b == 0 {
			return a
		}
		return a % b
	case api.OpAnd:
		return a & b
	case api.OpOr:
		return a | b
	case api.OpXor:
		return a ^ b
	case api.OpShl:
		return a << (b % 32) % wide
	case api.OpShr:
		return a >> (b % 32)
	case api.OpSar:
		return uint64(signed(a)>>(b%32)) % wide
	case api.OpSlt:
		return truth(signed(a) < signed(b))
	case api.OpSltu:
		return truth(a < b)
	case api.OpSeq:
		return truth(a == b)
	}
	panic("no operation")
}

// plain: the operation that an op on a register and a number does; 0 if it is no such op.
func plain(op uint8) uint8 {
	switch op {
	case api.OpAddi:
		return api.OpAdd
	case api.OpMuli:
		return api.OpMul
	case api.OpAndi:
		return api.OpAnd
	case api.OpOri:
		return api.OpOr
	case api.OpXori:
		return api.OpXor
	case api.OpShli:
		return api.OpShl
	case api.OpShri:
		return api.OpShr
	case api.OpSltui:
		return api.OpSltu
	case api.OpSeqi:
		return api.OpSeq
	}
	return 0
}

// take: the n bytes from addr on, if each may be taken.
func (l *model) take(addr uint64, n int, perm uint8) (string, bool) {
	var b []byte
	for i := range uint64(n) {
		x, ok := l.cells[addr+i]
		if !ok || x.perm&perm == 0 {
			return "", false
		}
		b = append(b, x.value)
	}
	return string(b), true
}

func faulted(why api.Errno) api.Stop { return api.Stop{Kind: api.StopFault, Why: why} }

// step: a step, by the chapter's definition.
func (l *model) step() api.Stop {
	b, ok := l.take(l.pc, 8, api.PermX)
	if !ok {
		return faulted(api.ErrFault)
	}
	x, ok := decode(b)
	if !ok {
		return faulted(api.ErrForm)
	}
	return l.do(x)
}

// do: an instruction.
func (l *model) do(x api.Insn) (s api.Stop) {
	a, b, imm, next := l.regs[x.A], l.regs[x.B], uint64(x.Imm), l.pc+8
	at := (a + imm) % wide
	switch x.Op {
	case api.OpLi:
		l.regs[x.D] = imm
	case api.OpLb, api.OpLw:
		t, ok := l.take(at, map[uint8]int{api.OpLb: 1, api.OpLw: 4}[x.Op], api.PermR)
		if !ok {
			return faulted(api.ErrFault)
		}
		l.regs[x.D] = 0
		for i := range len(t) {
			l.regs[x.D] += uint64(t[i]) << (8 * i)
		}
	case api.OpSb, api.OpSw:
		n := map[uint8]int{api.OpSb: 1, api.OpSw: 4}[x.Op]
		if _, ok := l.take(at, n, api.PermW); !ok {
			return faulted(api.ErrFault)
		}
		for i := range uint64(n) {
			l.cells[at+i] = cell{byte(b >> (8 * i)), l.cells[at+i].perm}
		}
	case api.OpJmp:
		next = imm
	case api.OpJal:
		l.regs[x.D], next = next, imm
	case api.OpJr:
		next = a
	case api.OpBeq, api.OpBne, api.OpBltu, api.OpBgeu:
		if map[uint8]bool{api.OpBeq: a == b, api.OpBne: a != b, api.OpBltu: a < b, api.OpBgeu: a >= b}[x.Op] {
			next = imm
		}
	case api.OpSys:
		s = api.Stop{Kind: api.StopSys, Num: x.Imm}
	default:
		if fn := plain(x.Op); fn != 0 {
			l.regs[x.D] = operation(fn, a, imm)
		} else {
			l.regs[x.D] = operation(x.Op, a, b)
		}
	}
	l.regs[0] = 0
	l.pc = next
	return s
}

// run: at most n steps.
func (l *model) run(n int) (s api.Stop, steps int) {
	for i := 0; i < n; i++ {
		s = l.step()
		if s.Kind == api.StopFault {
			return s, i
		}
		if s.Kind == api.StopSys {
			return s, i + 1
		}
	}
	return s, max(n, 0)
}

// copied: another model that has the same.
func (l *model) copied() *model {
	return &model{regs: l.regs, pc: l.pc, cells: maps.Clone(l.cells)}
}

// machine: a cpu and its space, with the model of both.
type machine struct {
	c *Cpu
	m *space.Space
	l *model
}

// machineAt: one that has no pages, with that pc; each register has a number of its own, none of them small.
func machineAt(t *testing.T, pc uint32) machine {
	t.Helper()
	x := machine{New(pc), space.New(), &model{pc: uint64(pc), cells: map[uint64]cell{}}}
	for n := range 16 {
		x.set(t, n, uint32(0xa0000000+n*0x01030507))
	}
	return x
}

// page: maps a page with that perm, and bytes that are none 0.
func (x machine) page(t *testing.T, addr uint32, perm uint8) machine {
	t.Helper()
	is(t, "Map", x.m.Map(addr, perm), api.OK)
	for i := range uint64(256) {
		x.l.cells[uint64(addr)+i] = cell{0, perm}
	}
	b := make([]byte, 256)
	for i := range b {
		b[i] = byte(1 + (i*7+int(addr>>8)*13)%255)
	}
	return x.put(t, addr, string(b))
}

// put: sets bytes, whatever their pages permit.
func (x machine) put(t *testing.T, addr uint32, s string) machine {
	t.Helper()
	is(t, "Set", x.m.Set(addr, s), api.OK)
	for i := range len(s) {
		a := uint64(addr) + uint64(i)
		x.l.cells[a] = cell{s[i], x.l.cells[a].perm}
	}
	return x
}

// set: sets a register.
func (x machine) set(t *testing.T, n int, v uint32) machine {
	t.Helper()
	is(t, "SetReg", x.c.SetReg(n, v), api.OK)
	if n != 0 {
		x.l.regs[n] = uint64(v)
	}
	return x
}

// goTo: sets the pc.
func (x machine) goTo(t *testing.T, pc uint32) machine {
	t.Helper()
	is(t, "SetPc", x.c.SetPc(pc), api.OK)
	x.l.pc = uint64(pc)
	return x
}

// copied: another machine that has the same.
func (x machine) copied() machine {
	return machine{x.c.Copy(), x.m.Copy(), x.l.copied()}
}

// is: that a call answered that error.
func is(t *testing.T, what string, got, want api.Errno) {
	t.Helper()
	if got != want {
		t.Fatalf("%s: %v; want %v", what, got, want)
	}
}

// stops: that a step ended so.
func stops(t *testing.T, what string, got, want api.Stop) {
	t.Helper()
	if got != want {
		t.Fatalf("%s: %+v; want %+v", what, got, want)
	}
}

// cpuHolds: that the cpu has the model's registers and pc.
func (x machine) cpuHolds(t *testing.T, what string) {
	t.Helper()
	for n, want := range x.l.regs {
		if v, e := x.c.Reg(n); uint64(v) != want || e != api.OK {
			t.Fatalf("%s: register %d is %#x, %v; want %#x", what, n, v, e, want)
		}
	}
	if pc := x.c.Pc(); uint64(pc) != x.l.pc {
		t.Fatalf("%s: pc %#x; want %#x", what, pc, x.l.pc)
	}
}

// holds: that the cpu has the model's registers and pc, and the space the model's pages, perms and bytes, and nothing else.
func (x machine) holds(t *testing.T, what string) {
	t.Helper()
	x.cpuHolds(t, what)
	var pages []uint32
	for a := range x.l.cells {
		if a%256 == 0 {
			pages = append(pages, uint32(a))
		}
	}
	slices.Sort(pages)
	if got := x.m.Pages(); !slices.Equal(got, pages) {
		t.Fatalf("%s: pages %v; want %v", what, got, pages)
	}
	for _, a := range pages {
		if p, ok := x.m.Perm(a); p != x.l.cells[uint64(a)].perm || !ok {
			t.Fatalf("%s: perm of %#x is %d, %v; want %d", what, a, p, ok, x.l.cells[uint64(a)].perm)
		}
		s, e := x.m.Look(a, 256)
		is(t, "Look", e, api.OK)
		for i := range len(s) {
			if want := x.l.cells[uint64(a)+uint64(i)].value; s[i] != want {
				t.Fatalf("%s: byte at %#x is %d; want %d", what, int(a)+i, s[i], want)
			}
		}
	}
}

// step: makes a step of the machine and of its model, and holds them against each other.
func (x machine) step(t *testing.T, what string) api.Stop {
	t.Helper()
	got, want := x.c.Step(x.m), x.l.step()
	stops(t, what, got, want)
	x.holds(t, what)
	return got
}

// run: runs the machine and its model, and holds them against each other.
func (x machine) run(t *testing.T, what string, n int) (api.Stop, int) {
	t.Helper()
	s, steps := x.c.Run(x.m, n)
	wantS, wantSteps := x.l.run(n)
	stops(t, what, s, wantS)
	if steps != wantSteps {
		t.Fatalf("%s: %d steps; want %d", what, steps, wantSteps)
	}
	x.holds(t, what)
	return s, steps
}
