package insn

import (
	"encoding/binary"
	"math/rand"
	"slices"
	"strings"
	"testing"

	"aedicule/api"
)

const most = 1<<32 - 1

// uses: the chapter's table, by the numbers of ops; I is Imm, and an empty text no op.
func uses(op int) string {
	switch op {
	case api.OpAdd, api.OpSub, api.OpMul, api.OpDivu, api.OpRemu, api.OpAnd, api.OpOr, api.OpXor, api.OpShl, api.OpShr, api.OpSar, api.OpSlt, api.OpSltu, api.OpSeq:
		return "DAB"
	case api.OpAddi, api.OpMuli, api.OpAndi, api.OpOri, api.OpXori, api.OpShli, api.OpShri, api.OpSltui, api.OpSeqi, api.OpLb, api.OpLw:
		return "DAI"
	case api.OpLi, api.OpJal:
		return "DI"
	case api.OpSb, api.OpSw, api.OpBeq, api.OpBne, api.OpBltu, api.OpBgeu:
		return "ABI"
	case api.OpJmp, api.OpSys:
		return "I"
	case api.OpJr:
		return "A"
	}
	return ""
}

// valid: whether the instruction is one, by the table.
func valid(x api.Insn) bool {
	u := uses(int(x.Op))
	if u == "" || x.D > 15 || x.A > 15 || x.B > 15 {
		return false
	}
	for part, v := range map[string]uint32{"D": uint32(x.D), "A": uint32(x.A), "B": uint32(x.B), "I": x.Imm} {
		if v != 0 && !strings.Contains(u, part) {
			return false
		}
	}
	return true
}

// bytesOf: the eight bytes of an instruction that is valid.
func bytesOf(x api.Insn) string {
	return string(binary.LittleEndian.AppendUint32([]byte{x.Op, x.D | x.A<<4, x.B, 0}, x.Imm))
}

// ops: those that there are.
func ops() []uint8 {
	var l []uint8
	for op := range 256 {
		if uses(op) != "" {
			l = append(l, uint8(op))
		}
	}
	return l
}

// some: each op, with each part that it uses at its edges and at others, and with 0 in those that it does not use.
func some() []api.Insn {
	var l []api.Insn
	pick := func(u, part string, from ...uint32) []uint32 {
		if strings.Contains(u, part) {
			return from
		}
		return []uint32{0}
	}
	for _, op := range ops() {
		u := uses(int(op))
		for _, d := range pick(u, "D", 0, 1, 8, 15) {
			for _, a := range pick(u, "A", 0, 1, 7, 15) {
				for _, b := range pick(u, "B", 0, 1, 9, 15) {
					for _, imm := range pick(u, "I", 0, 1, 255, 256, 258, 1<<16, 1<<24, 0x12345678, 1<<31, most-1, most) {
						l = append(l, api.Insn{Op: op, D: uint8(d), A: uint8(a), B: uint8(b), Imm: imm})
					}
				}
			}
		}
	}
	return l
}

// wrong: the instruction is valid to none.
func wrong(t *testing.T, x api.Insn) {
	t.Helper()
	if e := Check(x); e != api.ErrArg {
		t.Errorf("Check(%v): %v", x, e)
	}
	if s, e := Encode(x); s != "" || e != api.ErrArg {
		t.Errorf("Encode(%v): %q, %v", x, s, e)
	}
	if s, e := All(x); s != "" || e != api.ErrArg {
		t.Errorf("All(%v): %q, %v", x, s, e)
	}
}

// right: the instruction is valid to all, its encoding is s, and goes back to it.
func right(t *testing.T, x api.Insn, s string) {
	t.Helper()
	if e := Check(x); e != api.OK {
		t.Errorf("Check(%v): %v", x, e)
	}
	if got, e := Encode(x); got != s || e != api.OK {
		t.Errorf("Encode(%v): %q, %v; want %q", x, got, e, s)
	}
	if got, e := All(x); got != s || e != api.OK {
		t.Errorf("All(%v): %q, %v; want %q", x, got, e, s)
	}
	if got, e := Decode(s); got != x || e != api.OK {
		t.Errorf("Decode(%q): %v, %v; want %v", s, got, e, x)
	}
}

// noForm: s is no instruction's encoding.
func noForm(t *testing.T, s string) {
	t.Helper()
	if x, e := Decode(s); x != (api.Insn{}) || e != api.ErrForm {
		t.Errorf("Decode(%q): %v, %v", s, x, e)
	}
}

// P4.1, P4.2: the chapter's examples, and one of each kind of ops, byte by byte.
func TestExamples(t *testing.T) {
	for _, c := range []struct {
		x api.Insn
		s string
	}{
		{api.Insn{Op: api.OpAdd, D: 1, A: 2, B: 3}, "\x01\x21\x03\x00\x00\x00\x00\x00"},
		{api.Insn{Op: api.OpLi, D: 15, Imm: 258}, "\x20\x0f\x00\x00\x02\x01\x00\x00"},
		{api.Insn{Op: api.OpSeq, D: 15, A: 15, B: 15}, "\x0e\xff\x0f\x00\x00\x00\x00\x00"},
		{api.Insn{Op: api.OpAddi, D: 2, A: 10, Imm: most}, "\x11\xa2\x00\x00\xff\xff\xff\xff"},
		{api.Insn{Op: api.OpLw, D: 4, A: 5, Imm: 0x01020304}, "\x22\x54\x00\x00\x04\x03\x02\x01"},
		{api.Insn{Op: api.OpSb, A: 6, B: 7, Imm: 1 << 31}, "\x23\x60\x07\x00\x00\x00\x00\x80"},
		{api.Insn{Op: api.OpJmp, Imm: 256}, "\x28\x00\x00\x00\x00\x01\x00\x00"},
		{api.Insn{Op: api.OpJal, D: 15, Imm: 1 << 20}, "\x29\x0f\x00\x00\x00\x00\x10\x00"},
		{api.Insn{Op: api.OpJr, A: 15}, "\x2a\xf0\x00\x00\x00\x00\x00\x00"},
		{api.Insn{Op: api.OpBgeu, A: 1, B: 2, Imm: 8}, "\x2e\x10\x02\x00\x08\x00\x00\x00"},
		{api.Insn{Op: api.OpSys, Imm: 1}, "\x32\x00\x00\x00\x01\x00\x00\x00"},
		{api.Insn{Op: api.OpSys}, "\x32\x00\x00\x00\x00\x00\x00\x00"},
	} {
		right(t, c.x, c.s)
	}
	for _, x := range []api.Insn{{}, {Op: 15}, {Op: api.OpJr, A: 15, D: 1}, {Op: api.OpSys, B: 1}, {Op: api.OpAdd, Imm: 1}, {Op: api.OpAdd, D: 16}} {
		wrong(t, x)
	}
}

// P4.1: what each op uses; ErrArg, and nothing used, for each number that is no op.
func TestUses(t *testing.T) {
	for op := range 256 {
		u := uses(op)
		want := [4]bool{strings.Contains(u, "D"), strings.Contains(u, "A"), strings.Contains(u, "B"), strings.Contains(u, "I")}
		why := api.OK
		if u == "" {
			why = api.ErrArg
		}
		d, a, b, imm, e := Uses(uint8(op))
		if got := [4]bool{d, a, b, imm}; got != want || e != why {
			t.Errorf("Uses(%d): %v, %v; want %v, %v", op, got, e, want, why)
		}
	}
	if n := len(ops()); n != 36 {
		t.Errorf("%d ops", n)
	}
}

// P4.1: each number that is no op is one with nothing beside it either, and with whatever stands there.
func TestNoOp(t *testing.T) {
	for op := range 256 {
		if uses(op) != "" {
			continue
		}
		x := api.Insn{Op: uint8(op)}
		wrong(t, x)
		noForm(t, bytesOf(x))
		wrong(t, api.Insn{Op: uint8(op), D: 1, A: 2, B: 3})
		wrong(t, api.Insn{Op: uint8(op), D: 1, A: 2, Imm: 4})
		noForm(t, string([]byte{byte(op), 0x21, 3, 0, 4, 0, 0, 0}))
	}
}

// P4.1, P4.2: each op with each register in one part at a time, up to 255, the others being 0 or not: valid up to 15 where it is used, with 0 alone where it is not.
func TestRegisters(t *testing.T) {
	for _, base := range some() {
		if base.Imm > 1 {
			continue
		}
		for r := range 256 {
			d, a, b := base, base, base
			d.D, a.A, b.B = uint8(r), uint8(r), uint8(r)
			for part, x := range map[string]api.Insn{"D": d, "A": a, "B": b} {
				if r == 0 || r <= 15 && strings.Contains(uses(int(x.Op)), part) {
					right(t, x, bytesOf(x))
				} else {
					wrong(t, x)
				}
			}
		}
	}
}

// P4.1, P4.2: each op with numbers: any where one is used, 0 alone where none is.
func TestImm(t *testing.T) {
	for _, base := range some() {
		if base.Imm > 0 {
			continue
		}
		right(t, base, bytesOf(base))
		for i := range 32 {
			for _, imm := range []uint32{1 << i, most >> i, most << i} {
				x := base
				x.Imm = imm
				if strings.Contains(uses(int(x.Op)), "I") {
					right(t, x, bytesOf(x))
				} else {
					wrong(t, x)
				}
			}
		}
	}
}

// P4.1: each number for an op, with each combination of parts at the edges, against the table.
func TestAllParts(t *testing.T) {
	registers := []uint8{0, 1, 15, 16, 255}
	for op := range 256 {
		for _, d := range registers {
			for _, a := range registers {
				for _, b := range registers {
					for _, imm := range []uint32{0, 1, most} {
						x := api.Insn{Op: uint8(op), D: d, A: a, B: b, Imm: imm}
						if valid(x) {
							right(t, x, bytesOf(x))
						} else {
							wrong(t, x)
						}
					}
				}
			}
		}
	}
}

// P4.1: the encodings of none, of one, and of many instructions, in order.
func TestAll(t *testing.T) {
	for what, l := range map[string][]api.Insn{"nil": nil, "an empty list": {}} {
		if s, e := All(l...); s != "" || e != api.OK {
			t.Errorf("All of %s: %q, %v", what, s, e)
		}
	}
	if s, e := All(); s != "" || e != api.OK {
		t.Errorf("All(): %q, %v", s, e)
	}
	var want strings.Builder
	l := some()
	for _, x := range l {
		want.WriteString(bytesOf(x))
	}
	was := slices.Clone(l)
	if s, e := All(l...); s != want.String() || e != api.OK {
		t.Errorf("All of %d instructions: %d bytes, %v; want %d", len(l), len(s), e, want.Len())
	}
	if !slices.Equal(l, was) {
		t.Error("the list has changed")
	}
	slices.Reverse(l)
	if s, e := All(l...); s[:api.InsnSize] != bytesOf(l[0]) || len(s) != want.Len() || e != api.OK {
		t.Errorf("All of %d instructions in the other order: %d bytes, %v", len(l), len(s), e)
	}
	one := api.Insn{Op: api.OpSw, A: 1, B: 2, Imm: 3}
	if s, e := All(one, one, one); s != strings.Repeat(bytesOf(one), 3) || e != api.OK {
		t.Errorf("All of one three times: %q, %v", s, e)
	}
}

// P4.1: a list of which one instruction, anywhere, is not valid.
func TestAllWrong(t *testing.T) {
	for _, x := range []api.Insn{{}, {Op: 15}, {Op: 255}, {Op: api.OpAdd, D: 16}, {Op: api.OpAdd, A: 16}, {Op: api.OpAdd, B: 16}, {Op: api.OpJr, A: 1, Imm: 1}, {Op: api.OpJmp, D: 1}} {
		for n := 1; n <= 5; n++ {
			for at := range n {
				l := slices.Repeat([]api.Insn{{Op: api.OpLi, D: 1, Imm: 2}}, n)
				l[at] = x
				if s, e := All(l...); s != "" || e != api.ErrArg {
					t.Errorf("All of %d, with %v at %d: %q, %v", n, x, at, s, e)
				}
			}
		}
	}
}

// P4.2: texts that have not eight bytes, whatever stands in them.
func TestDecodeLengths(t *testing.T) {
	for _, x := range some() {
		s := bytesOf(x)
		for n := range api.InsnSize {
			noForm(t, s[:n])
			noForm(t, s[n+1:])
		}
		noForm(t, s+"\x00")
		noForm(t, "\x00"+s)
		noForm(t, s+s)
	}
	for n := range 100 {
		noForm(t, strings.Repeat("\x00", n))
		if n != api.InsnSize {
			noForm(t, strings.Repeat("\x01", n))
		}
	}
}

// P4.2: each byte of an encoding replaced by each other one: an instruction if the table has one that is so encoded, otherwise none.
func TestDecodeEachByte(t *testing.T) {
	for _, x := range some() {
		s := bytesOf(x)
		for at := range s {
			for v := range 256 {
				b := []byte(s)
				b[at] = byte(v)
				decoded(t, string(b))
			}
		}
	}
}

// decoded: what eight bytes are, by the table: byte 3 is 0, and what the others say is valid.
func decoded(t *testing.T, s string) {
	t.Helper()
	x := api.Insn{Op: s[0], D: s[1] & 15, A: s[1] >> 4, B: s[2], Imm: binary.LittleEndian.Uint32([]byte(s[4:]))}
	if s[3] != 0 || !valid(x) {
		noForm(t, s)
		return
	}
	got, e := Decode(s)
	if got != x || e != api.OK {
		t.Errorf("Decode(%q): %v, %v; want %v", s, got, e, x)
	}
	if back, e := Encode(got); back != s || e != api.OK {
		t.Errorf("Encode(Decode(%q)): %q, %v", s, back, e)
	}
}

// P4.2: the edges by name: byte 3, byte 2 above 15, and what an op does not use.
func TestDecodeWrong(t *testing.T) {
	for _, s := range []string{
		"\x01\x21\x03\x01\x00\x00\x00\x00", "\x01\x21\x03\xff\x00\x00\x00\x00", // byte 3
		"\x01\x21\x10\x00\x00\x00\x00\x00", "\x01\x21\xff\x00\x00\x00\x00\x00", "\x23\x60\x10\x00\x00\x00\x00\x00", // byte 2
		"\x01\x21\x03\x00\x01\x00\x00\x00", "\x01\x21\x03\x00\x00\x00\x00\x80", // a number that is not used
		"\x11\x21\x01\x00\x05\x00\x00\x00", "\x2a\xf0\x01\x00\x00\x00\x00\x00", // B
		"\x20\x1f\x00\x00\x02\x01\x00\x00", "\x29\x1f\x00\x00\x02\x01\x00\x00", "\x28\x10\x00\x00\x00\x01\x00\x00", // A
		"\x23\x61\x07\x00\x00\x00\x00\x00", "\x2a\xf1\x00\x00\x00\x00\x00\x00", "\x2e\x11\x02\x00\x08\x00\x00\x00", "\x32\x01\x00\x00\x01\x00\x00\x00", // D
		"\x2a\xf0\x00\x00\x01\x00\x00\x00", "\x00\x00\x00\x00\x00\x00\x00\x00", "\x0f\x21\x03\x00\x00\x00\x00\x00", "\x33\x00\x00\x00\x00\x00\x00\x00", "\xff\xff\xff\xff\xff\xff\xff\xff",
	} {
		noForm(t, s)
	}
}

// P4.2, P4.3: bytes drawn from a fixed row, with ops and noughts often enough that many are encodings.
func TestDecodeMany(t *testing.T) {
	r := rand.New(rand.NewSource(4))
	l := ops()
	for range 1 << 18 {
		b := binary.LittleEndian.AppendUint64(nil, r.Uint64())
		b[0] = l[r.Intn(len(l))]
		for at := 1; at < len(b); at++ {
			if r.Intn(3) > 0 {
				b[at] = 0
			}
		}
		decoded(t, string(b))
	}
}

// P4.3: Decode inverts Encode, Encode inverts Decode, and no two instructions have one encoding.
func TestInverse(t *testing.T) {
	of := map[string]api.Insn{}
	for _, x := range some() {
		s, e := Encode(x)
		if e != api.OK || len(s) != api.InsnSize {
			t.Fatalf("Encode(%v): %q, %v", x, s, e)
		}
		if y, is := of[s]; is {
			t.Errorf("%v and %v have one encoding, %q", x, y, s)
		}
		of[s] = x
		y, e := Decode(s)
		if y != x || e != api.OK {
			t.Errorf("Decode(Encode(%v)): %v, %v", x, y, e)
		}
		if back, e := Encode(y); back != s || e != api.OK {
			t.Errorf("Encode(Decode(%q)): %q, %v", s, back, e)
		}
	}
	if len(of) != len(some()) {
		t.Errorf("%d instructions have %d encodings", len(some()), len(of))
	}
}

// P4.3: what All joins is told apart again, eight bytes each.
func TestAllBack(t *testing.T) {
	l := some()
	s, e := All(l...)
	if e != api.OK || len(s) != api.InsnSize*len(l) {
		t.Fatalf("All of %d instructions: %d bytes, %v", len(l), len(s), e)
	}
	for i, x := range l {
		if y, e := Decode(s[api.InsnSize*i : api.InsnSize*(i+1)]); y != x || e != api.OK {
			t.Errorf("instruction %d: %v, %v; want %v", i, y, e, x)
		}
	}
}
