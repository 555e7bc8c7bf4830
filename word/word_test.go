package word

import (
	"math/big"
	"strings"
	"testing"

	"aedicule/api"
)

// edges: numbers at which one of the operations or lengths changes its course.
var edges = []uint32{
	0, 1, 2, 3, 5, 7, 8, 15, 16, 30, 31, 32, 33, 63, 64, 127, 128, 255, 256, 257, 258, 1000,
	1<<16 - 1, 1 << 16, 1<<16 + 1, 1<<24 - 1, 1 << 24, 1<<31 - 2, 1<<31 - 1, 1 << 31, 1<<31 + 1,
	0x12345678, 0x87654321, 1<<32 - 33, 1<<32 - 32, 1<<32 - 3, 1<<32 - 2, 1<<32 - 1,
}

const (
	top  = 1 << 31
	most = 1<<32 - 1
)

// P1.1: each operation, by examples.
func TestOpExamples(t *testing.T) {
	for _, x := range []struct {
		fn         uint8
		a, b, want uint32
	}{
		{api.OpAdd, 2, 3, 5}, {api.OpAdd, most, 1, 0}, {api.OpAdd, most, most, most - 1},
		{api.OpSub, 5, 3, 2}, {api.OpSub, 0, 1, most}, {api.OpSub, 3, 5, most - 1},
		{api.OpMul, 6, 7, 42}, {api.OpMul, 1 << 16, 1 << 16, 0}, {api.OpMul, most, most, 1},
		{api.OpDivu, 7, 2, 3}, {api.OpDivu, 7, 0, most}, {api.OpDivu, 0, 0, most}, {api.OpDivu, most, 1, most}, {api.OpDivu, top, most, 0},
		{api.OpRemu, 7, 2, 1}, {api.OpRemu, 7, 0, 7}, {api.OpRemu, 0, 0, 0}, {api.OpRemu, top, most, top},
		{api.OpAnd, 12, 10, 8}, {api.OpOr, 12, 10, 14}, {api.OpXor, 12, 10, 6},
		{api.OpShl, 1, 31, top}, {api.OpShl, 1, 32, 1}, {api.OpShl, 1, 33, 2}, {api.OpShl, 3, 31, top}, {api.OpShl, 1, most, top},
		{api.OpShr, top, 31, 1}, {api.OpShr, top, 32, top}, {api.OpShr, top, 33, 1 << 30}, {api.OpShr, most, 4, 1<<28 - 1},
		{api.OpSar, top, 31, most}, {api.OpSar, top, 32, top}, {api.OpSar, top, 33, 3 << 30}, {api.OpSar, top - 1, 30, 1}, {api.OpSar, 64, 3, 8},
		{api.OpSlt, top, 0, 1}, {api.OpSlt, 0, top, 0}, {api.OpSlt, most, 0, 1}, {api.OpSlt, 4, 5, 1}, {api.OpSlt, 5, 5, 0}, {api.OpSlt, top, top - 1, 1},
		{api.OpSltu, top, 0, 0}, {api.OpSltu, 0, top, 1}, {api.OpSltu, 4, 5, 1}, {api.OpSltu, 5, 5, 0}, {api.OpSltu, top, top - 1, 0},
		{api.OpSeq, 5, 5, 1}, {api.OpSeq, 5, 6, 0}, {api.OpSeq, top, 0, 0},
	} {
		if v, e := Op(x.fn, x.a, x.b); v != x.want || e != api.OK {
			t.Errorf("Op(%d, %d, %d): %d, %v; want %d", x.fn, x.a, x.b, v, e, x.want)
		}
	}
}

// model: the operation on integers without bounds, before it is taken modulo 2^32.
func model(fn uint8, a, b uint32) *big.Int {
	x, y := new(big.Int).SetUint64(uint64(a)), new(big.Int).SetUint64(uint64(b))
	z := new(big.Int)
	bit := func(is bool) *big.Int {
		if is {
			return z.SetInt64(1)
		}
		return z
	}
	switch fn {
	case api.OpAdd:
		return z.Add(x, y)
	case api.OpSub:
		return z.Sub(x, y)
	case api.OpMul:
		return z.Mul(x, y)
	case api.OpDivu:
		if b == 0 {
			return z.SetInt64(most)
		}
		return z.Div(x, y)
	case api.OpRemu:
		if b == 0 {
			return x
		}
		return z.Mod(x, y)
	case api.OpAnd:
		return z.And(x, y)
	case api.OpOr:
		return z.Or(x, y)
	case api.OpXor:
		return z.Xor(x, y)
	case api.OpShl:
		return z.Lsh(x, uint(b%32))
	case api.OpShr:
		return z.Rsh(x, uint(b%32))
	case api.OpSar:
		return z.Rsh(signed(a), uint(b%32)) // big.Int rounds down, as a sign that is copied does
	case api.OpSlt:
		return bit(signed(a).Cmp(signed(b)) < 0)
	case api.OpSltu:
		return bit(x.Cmp(y) < 0)
	}
	return bit(x.Cmp(y) == 0)
}

func signed(a uint32) *big.Int {
	x := new(big.Int).SetUint64(uint64(a))
	if a >= top {
		x.Sub(x, big.NewInt(1<<32))
	}
	return x
}

// P1.1: each operation, on each pair of edges, against integers without bounds.
func TestOpModel(t *testing.T) {
	modulus := big.NewInt(1 << 32)
	for fn := uint8(api.OpAdd); fn <= api.OpSeq; fn++ {
		for _, a := range edges {
			for _, b := range edges {
				want := model(fn, a, b)
				want.Mod(want, modulus)
				if v, e := Op(fn, a, b); uint64(v) != want.Uint64() || e != api.OK {
					t.Errorf("Op(%d, %d, %d): %d, %v; want %v", fn, a, b, v, e, want)
				}
			}
		}
	}
}

// P1.1: ErrArg for every number that is no operation's, and for no other one.
func TestOpNumbers(t *testing.T) {
	for fn := range 256 {
		v, e := Op(uint8(fn), 3, 3)
		if is := fn >= 1 && fn <= 14; is && e != api.OK || !is && (v != 0 || e != api.ErrArg) {
			t.Errorf("Op(%d, 3, 3): %d, %v", fn, v, e)
		}
	}
}

// P1.2: numbers as bytes, and their errors.
func TestPut(t *testing.T) {
	for _, x := range []struct {
		v    uint32
		n    int
		want string
		e    api.Errno
	}{
		{0, 1, "\x00", api.OK}, {255, 1, "\xff", api.OK}, {256, 1, "", api.ErrLong},
		{258, 2, "\x02\x01", api.OK}, {1<<16 - 1, 2, "\xff\xff", api.OK}, {1 << 16, 2, "", api.ErrLong},
		{258, 3, "\x02\x01\x00", api.OK}, {1<<24 - 1, 3, "\xff\xff\xff", api.OK}, {1 << 24, 3, "", api.ErrLong},
		{0x01020304, 4, "\x04\x03\x02\x01", api.OK}, {most, 4, "\xff\xff\xff\xff", api.OK}, {most, 3, "", api.ErrLong}, {most, 1, "", api.ErrLong},
		{1, 0, "", api.ErrArg}, {0, 0, "", api.ErrArg}, {0, 5, "", api.ErrArg}, {0, -1, "", api.ErrArg}, {most, 0, "", api.ErrArg}, {most, 8, "", api.ErrArg},
		{0, -1 << 63, "", api.ErrArg}, {0, 1<<63 - 1, "", api.ErrArg}, {0, 1<<32 + 1, "", api.ErrArg},
	} {
		if s, e := Put(x.v, x.n); s != x.want || e != x.e {
			t.Errorf("Put(%d, %d): %q, %v; want %q, %v", x.v, x.n, s, e, x.want, x.e)
		}
	}
}

// P1.2: the same, big-endian.
func TestPutHigh(t *testing.T) {
	for _, x := range []struct {
		v    uint32
		n    int
		want string
		e    api.Errno
	}{
		{0, 2, "\x00\x00", api.OK}, {258, 2, "\x01\x02", api.OK}, {1<<16 - 1, 2, "\xff\xff", api.OK}, {1 << 16, 2, "", api.ErrLong}, {most, 2, "", api.ErrLong},
		{258, 4, "\x00\x00\x01\x02", api.OK}, {0x01020304, 4, "\x01\x02\x03\x04", api.OK}, {most, 4, "\xff\xff\xff\xff", api.OK},
		{1, 1, "", api.ErrArg}, {1, 3, "", api.ErrArg}, {1, 5, "", api.ErrArg}, {1, 0, "", api.ErrArg}, {1, -2, "", api.ErrArg}, {most, 3, "", api.ErrArg}, {most, 1, "", api.ErrArg},
		{0, -1 << 63, "", api.ErrArg}, {0, 1<<63 - 1, "", api.ErrArg}, {0, 1<<32 + 2, "", api.ErrArg},
	} {
		if s, e := PutHigh(x.v, x.n); s != x.want || e != x.e {
			t.Errorf("PutHigh(%d, %d): %q, %v; want %q, %v", x.v, x.n, s, e, x.want, x.e)
		}
	}
}

// P1.2: bytes as numbers, and their errors.
func TestGet(t *testing.T) {
	for _, x := range []struct {
		s         string
		low       uint32
		lowError  api.Errno
		high      uint32
		highError api.Errno
	}{
		{"", 0, api.ErrArg, 0, api.ErrArg},
		{"\x01", 1, api.OK, 0, api.ErrArg},
		{"\xff", 255, api.OK, 0, api.ErrArg},
		{"\x01\x02", 0x0201, api.OK, 0x0102, api.OK},
		{"\xff\x00", 0x00ff, api.OK, 0xff00, api.OK},
		{"\x01\x02\x03", 0x030201, api.OK, 0, api.ErrArg},
		{"\x01\x02\x03\x04", 0x04030201, api.OK, 0x01020304, api.OK},
		{"\xff\xff\xff\xff", most, api.OK, most, api.OK},
		{"\x00\x00\x00\x80", top, api.OK, 128, api.OK},
		{"\x00\x00\x00\x00\x00", 0, api.ErrArg, 0, api.ErrArg},
		{"\x01\x02\x03\x04\x05\x06\x07\x08", 0, api.ErrArg, 0, api.ErrArg},
	} {
		if v, e := Get(x.s); v != x.low || e != x.lowError {
			t.Errorf("Get(%q): %d, %v; want %d, %v", x.s, v, e, x.low, x.lowError)
		}
		if v, e := GetHigh(x.s); v != x.high || e != x.highError {
			t.Errorf("GetHigh(%q): %d, %v; want %d, %v", x.s, v, e, x.high, x.highError)
		}
	}
}

// P1.3: digits of bytes.
func TestHex(t *testing.T) {
	for _, x := range []struct{ s, want string }{
		{"", ""}, {"\x01\xff", "01ff"}, {"\x00", "00"}, {"\x9a\xbc\xde\xf0", "9abcdef0"}, {"\x10\x0f", "100f"}, {"az", "617a"}, {"é", "c3a9"},
	} {
		if s := Hex(x.s); s != x.want {
			t.Errorf("Hex(%q): %q; want %q", x.s, s, x.want)
		}
		if s, e := Unhex(x.want); s != x.s || e != api.OK {
			t.Errorf("Unhex(%q): %q, %v; want %q", x.want, s, e, x.s)
		}
	}
}

// P1.3: texts that are no digits of bytes.
func TestUnhexWrong(t *testing.T) {
	for _, s := range []string{"1", "012", "f", "0G", "g0", "0g", "0F", "F0", "AB", "0A", "A0", " 0", "0 ", "0x01", "+1", "-1", "01f", "01\x00\x00", "0/", "0:", ":0", "/0", "0`", "`0", "é", "0\xff", "00zz", "zz00", "ffff0", strings.Repeat("0", 101)} {
		if b, e := Unhex(s); b != "" || e != api.ErrArg {
			t.Errorf("Unhex(%q): %q, %v", s, b, e)
		}
	}
}

// P1.3: of all pairs of bytes those of two lower-case digits are accepted, and no other ones.
func TestUnhexPairs(t *testing.T) {
	const all = "0123456789abcdef"
	for i := range 1 << 16 {
		s := string([]byte{byte(i >> 8), byte(i)})
		high, low := strings.Index(all, s[:1]), strings.Index(all, s[1:])
		want, why := "", api.ErrArg
		if high >= 0 && low >= 0 {
			want, why = string([]byte{byte(16*high + low)}), api.OK
		}
		if b, e := Unhex(s); b != want || e != why {
			t.Fatalf("Unhex(%q): %q, %v; want %q, %v", s, b, e, want, why)
		}
	}
}

// P1.4: Get inverts Put, and GetHigh PutHigh, whenever a number fits; otherwise it is too long.
func TestInversesOfPut(t *testing.T) {
	for _, v := range edges {
		for n := 1; n <= 4; n++ {
			inverse(t, "Put", v, n, Put, Get)
		}
		for n := 2; n <= 4; n += 2 {
			inverse(t, "PutHigh", v, n, PutHigh, GetHigh)
		}
	}
}

func inverse(t *testing.T, name string, v uint32, n int, put func(uint32, int) (string, api.Errno), get func(string) (uint32, api.Errno)) {
	t.Helper()
	s, e := put(v, n)
	if n < 4 && v>>(8*n) != 0 {
		if s != "" || e != api.ErrLong {
			t.Errorf("%s(%d, %d): %q, %v", name, v, n, s, e)
		}
		return
	}
	if w, f := get(s); len(s) != n || e != api.OK || w != v || f != api.OK {
		t.Errorf("%s(%d, %d): %q, %v; and back %d, %v", name, v, n, s, e, w, f)
	}
}

// P1.4: Unhex inverts Hex, for each byte and for all of them in one text.
func TestInverseOfHex(t *testing.T) {
	all := ""
	for i := range 256 {
		all += string([]byte{byte(i)})
		for _, s := range []string{all, all[i:]} {
			h := Hex(s)
			if b, e := Unhex(h); len(h) != 2*len(s) || b != s || e != api.OK {
				t.Errorf("%q: %q; and back %q, %v", s, h, b, e)
			}
		}
	}
}

// P1.4: the remainder and b times the quotient make a; comparisons of numbers of one sign agree.
func TestOpConsequences(t *testing.T) {
	op := func(fn uint8, a, b uint32) uint32 {
		v, e := Op(fn, a, b)
		if e != api.OK {
			t.Fatalf("Op(%d, %d, %d): %v", fn, a, b, e)
		}
		return v
	}
	for _, a := range edges {
		for _, b := range edges {
			if v := op(api.OpAdd, op(api.OpRemu, a, b), op(api.OpMul, b, op(api.OpDivu, a, b))); v != a {
				t.Errorf("%d divided by %d: makes %d", a, b, v)
			}
			same := a < top == (b < top)
			if agree := op(api.OpSlt, a, b) == op(api.OpSltu, a, b); agree != same {
				t.Errorf("%d less than %d: signed and unsigned agree: %v", a, b, agree)
			}
		}
	}
}
