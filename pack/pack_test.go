package pack

import (
	"math"
	"math/rand"
	"reflect"
	"slices"
	"strings"
	"testing"
	"unsafe"

	"aedicule/api"
)

// text: n bytes of all values, others for each seed.
func text(n, seed int) string {
	b := make([]byte, n)
	for i := range b {
		b[i] = byte(seed + i*167 + i*i/251 + i>>8)
	}
	return string(b)
}

// many: n strings that are empty, but for what stands at i.
func many(n, i int, s string) []string {
	l := make([]string, n)
	l[i] = s
	return l
}

// is: that a call answered that error.
func is(t *testing.T, what string, got, want api.Errno) {
	t.Helper()
	if got != want {
		t.Fatalf("%s: %d; want %d", what, got, want)
	}
}

// gave: that a call answered those bytes and that error.
func gave(t *testing.T, what, s string, e api.Errno, wantS string, wantE api.Errno) {
	t.Helper()
	if s != wantS || e != wantE {
		t.Fatalf("%s: %.64q of %d bytes, %d; want %.64q of %d bytes, %d", what, s, len(s), e, wantS, len(wantS), wantE)
	}
}

// listed: that a call answered those strings and that error.
func listed(t *testing.T, what string, l []string, e api.Errno, wantL []string, wantE api.Errno) {
	t.Helper()
	if !slices.Equal(l, wantL) || e != wantE {
		t.Fatalf("%s: %d strings, %d; want %d, %d", what, len(l), e, len(wantL), wantE)
	}
}

// stands: that so many bytes are left to the reader, and that its fault is that one.
func stands(t *testing.T, what string, r *Reader, left int, fault api.Errno) {
	t.Helper()
	if r.Left() != left || r.Fault() != fault {
		t.Fatalf("%s: %d left, fault %d; want %d, %d", what, r.Left(), r.Fault(), left, fault)
	}
}

// P7.1, P7.2: the chapter's examples.
func TestExamples(t *testing.T) {
	s, e := Num(258, 2)
	gave(t, "Num(258, 2)", s, e, "\x02\x01", api.OK)
	s, e = Text("ab")
	gave(t, "Text(ab)", s, e, "\x02\x00ab", api.OK)
	s, e = Texts()
	gave(t, "Texts()", s, e, "\x00\x00", api.OK)
	r := New("\x02\x01\x02\x00ab\x00\x00")
	if v, e := r.Num(2); v != 258 || e != api.OK {
		t.Errorf("Num(2): %d, %d", v, e)
	}
	s, e = r.Text()
	gave(t, "Text", s, e, "ab", api.OK)
	l, e := r.Texts()
	listed(t, "Texts", l, e, nil, api.OK)
	is(t, "End", r.End(), api.OK)
}

// numbers: from 0 on, those around each power of 2, and such whose bytes all differ.
func numbers() []uint64 {
	l := []uint64{0, 0x01020304, 0x04030201, 0x00fedcba, 0xfedcba98, 0x80000001}
	for i := range 33 {
		for _, v := range []uint64{1<<i - 1, 1 << i, 1<<i + 1} {
			if v <= math.MaxUint32 {
				l = append(l, v)
			}
		}
	}
	return l
}

// P7.1: Num of any number in any number of bytes: those that just fit and just do not, and n that may not be, whether the number is small or great.
func TestNum(t *testing.T) {
	for _, v := range numbers() {
		for _, n := range []int{math.MinInt, math.MinInt32, -4, -1, 0, 5, 6, 8, 12, 256, 257, math.MaxInt32, math.MaxInt} {
			s, e := Num(uint32(v), n)
			gave(t, "Num with n that may not be", s, e, "", api.ErrArg)
		}
		for n := 1; n <= 4; n++ {
			s, e := Num(uint32(v), n)
			if v/uint64(math.Pow(256, float64(n))) == 0 {
				gave(t, "Num", s, e, numOf(v, n), api.OK)
			} else {
				gave(t, "Num of too great a number", s, e, "", api.ErrLong)
			}
		}
	}
}

// P7.1: the greatest number that fits in n bytes and the least that does not, written out.
func TestNumJustFits(t *testing.T) {
	for _, x := range []struct {
		v    uint32
		n    int
		want string
		e    api.Errno
	}{
		{0, 1, "\x00", api.OK}, {255, 1, "\xff", api.OK}, {256, 1, "", api.ErrLong},
		{0, 2, "\x00\x00", api.OK}, {65535, 2, "\xff\xff", api.OK}, {65536, 2, "", api.ErrLong},
		{0, 3, "\x00\x00\x00", api.OK}, {1<<24 - 1, 3, "\xff\xff\xff", api.OK}, {1 << 24, 3, "", api.ErrLong},
		{0, 4, "\x00\x00\x00\x00", api.OK}, {1 << 24, 4, "\x00\x00\x00\x01", api.OK}, {1<<32 - 1, 4, "\xff\xff\xff\xff", api.OK},
		{0, 0, "", api.ErrArg}, {0, 5, "", api.ErrArg}, {1<<32 - 1, 0, "", api.ErrArg},
	} {
		s, e := Num(x.v, x.n)
		gave(t, "Num", s, e, x.want, x.e)
	}
}

// P7.1: Text of each length around the ends of one byte and of two.
func TestText(t *testing.T) {
	for _, n := range []int{0, 1, 2, 3, 127, 128, 255, 256, 257, 511, 512, 4095, 4096, 4097, 32767, 32768, 65279, 65280, 65534, 65535} {
		s := text(n, n)
		got, e := Text(s)
		gave(t, "Text", got, e, numOf(uint64(n), 2)+s, api.OK)
	}
	for _, n := range []int{65536, 65537, 65536 + 256, 2*65536 - 1, 2 * 65536, 1 << 24} {
		got, e := Text(text(n, n))
		gave(t, "Text of too many bytes", got, e, "", api.ErrLong)
	}
}

// P7.1: Text takes bytes of all values, and such as look like an encoding.
func TestTextAnyBytes(t *testing.T) {
	for i := range 256 {
		s := string([]byte{byte(i)})
		got, e := Text(s)
		gave(t, "Text of one byte", got, e, "\x01\x00"+s, api.OK)
	}
	got, e := Text("\x02\x00ab")
	gave(t, "Text of an encoding", got, e, "\x04\x00\x02\x00ab", api.OK)
}

// P7.1: Texts of no string, of some, of as many as may be; with empty ones among them.
func TestTexts(t *testing.T) {
	all := make([]string, 4096)
	for i := range all {
		all[i] = text(i%7, i)
	}
	for _, l := range [][]string{nil, {}, {""}, {"a"}, {"", ""}, {"a", "", "bc"}, {"", "a", ""}, {"a", "a"}, {"\x00\x00", "\x01\x00"}, all[:255], all[:256], all[:257], all[:4095], all, make([]string, 4096), {text(65535, 0), "", text(65535, 1)}, many(4096, 4095, text(65535, 0))} {
		s, e := Texts(l...)
		gave(t, "Texts", s, e, textsOf(l...), api.OK)
	}
	s, e := Texts("a", "", "bc")
	gave(t, "Texts(a, , bc)", s, e, "\x03\x00\x01\x00a\x00\x00\x02\x00bc", api.OK)
}

// P7.1: Texts of more strings than may be, and with one that is too long, wherever it stands.
func TestTextsLong(t *testing.T) {
	long := text(65536, 0)
	for _, l := range [][]string{make([]string, 4097), make([]string, 4098), make([]string, 65536), make([]string, 65537), make([]string, 65536+4096), many(4097, 4096, long), many(4097, 0, "a"), {long}, {long, "a"}, {"a", long}, {"a", long, "b"}, {"", long, long}, {text(65535, 0), text(65537, 0)}, {text(1<<17, 0), ""}, many(4096, 0, long), many(4096, 4095, long)} {
		s, e := Texts(l...)
		gave(t, "Texts", s, e, "", api.ErrLong)
	}
}

// P7.2: a new reader has all bytes ahead, and no fault.
func TestNew(t *testing.T) {
	for _, n := range []int{0, 1, 2, 255, 256, 65535, 65536, 1 << 20} {
		r := New(text(n, 0))
		if r == nil {
			t.Fatal("New is nil")
		}
		stands(t, "a new reader", r, n, api.OK)
		s, e := r.Take(n)
		gave(t, "Take of all", s, e, text(n, 0), api.OK)
		stands(t, "behind all", r, 0, api.OK)
		is(t, "End", r.End(), api.OK)
	}
}

// P7.2: Take of nothing, of some, of all that is left, of one more, of less than nothing.
func TestTake(t *testing.T) {
	for _, s := range []string{"", "a", "abc", text(300, 0), text(70000, 0)} {
		for _, n := range []int{math.MinInt, math.MinInt32, -256, -2, -1} {
			r := New(s)
			got, e := r.Take(n)
			gave(t, "Take of less than nothing", got, e, "", api.ErrArg)
			stands(t, "behind it", r, len(s), api.ErrArg)
		}
		for _, n := range []int{len(s) + 1, len(s) + 2, len(s) + 256, math.MaxInt32, math.MaxInt} {
			r := New(s)
			got, e := r.Take(n)
			gave(t, "Take of more than is left", got, e, "", api.ErrEnd)
			stands(t, "behind it", r, len(s), api.ErrEnd)
		}
		r := New(s)
		for i := 0; i < len(s); i += 1 + i/3 {
			got, e := r.Take(0)
			gave(t, "Take of nothing", got, e, "", api.OK)
			got, e = r.Take(min(1+i/3, len(s)-i))
			gave(t, "Take", got, e, s[i:min(i+1+i/3, len(s))], api.OK)
			stands(t, "behind it", r, len(s)-min(i+1+i/3, len(s)), api.OK)
		}
		got, e := r.Take(0)
		gave(t, "Take of nothing at the end", got, e, "", api.OK)
		got, e = r.Take(1)
		gave(t, "Take of one at the end", got, e, "", api.ErrEnd)
		stands(t, "behind all", r, 0, api.ErrEnd)
	}
}

// P7.2: Num of each n, with fewer bytes than n, as many, and more; an n that may not be tells ahead of bytes that are wanting.
func TestReaderNum(t *testing.T) {
	for length := range 8 {
		s := text(length, 0xf1)
		for _, n := range []int{math.MinInt, math.MinInt32, -1, 0, 5, 6, 7, 8, 9, 256, 257, math.MaxInt32, math.MaxInt} {
			r := New(s)
			if v, e := r.Num(n); v != 0 || e != api.ErrArg {
				t.Errorf("Num(%d) of %d bytes: %d, %d", n, length, v, e)
			}
			stands(t, "behind it", r, length, api.ErrArg)
		}
		for n := 1; n <= 4; n++ {
			r := New(s)
			v, e := r.Num(n)
			if n > length {
				if v != 0 || e != api.ErrEnd {
					t.Errorf("Num(%d) of %d bytes: %d, %d", n, length, v, e)
				}
				stands(t, "behind it", r, length, api.ErrEnd)
				continue
			}
			if numOf(uint64(v), n) != s[:n] || uint64(v)>>(8*n) != 0 || e != api.OK {
				t.Errorf("Num(%d) of %q: %d, %d", n, s, v, e)
			}
			stands(t, "behind it", r, length-n, api.OK)
		}
	}
}

// P7.2: every number that was laid is read, with bytes behind it and without.
func TestReaderNumAll(t *testing.T) {
	for _, v := range numbers() {
		for n := 1; n <= 4; n++ {
			for _, behind := range []string{"", "\x00", "\xff\xff"} {
				if v>>(8*n) != 0 {
					continue
				}
				r := New(numOf(v, n) + behind)
				if got, e := r.Num(n); uint64(got) != v || e != api.OK {
					t.Errorf("Num(%d) of %d: %d, %d", n, v, got, e)
				}
				stands(t, "behind it", r, len(behind), api.OK)
			}
		}
	}
}

// P7.2: Text, cut off at each byte, just whole, and with bytes behind it.
func TestReaderText(t *testing.T) {
	for _, n := range []int{0, 1, 2, 3, 255, 256, 257, 65535} {
		want, all := text(n, n), textOf(text(n, n))
		for cut := 0; cut < len(all); cut += 1 + cut/5 {
			r := New(all[:cut])
			got, e := r.Text()
			gave(t, "Text that is cut off", got, e, "", api.ErrEnd)
			stands(t, "behind it", r, cut, api.ErrEnd)
		}
		r := New(all[:len(all)-1])
		got, e := r.Text()
		gave(t, "Text without its last byte", got, e, "", api.ErrEnd)
		stands(t, "behind it", r, len(all)-1, api.ErrEnd)
		for _, behind := range []string{"", "\x00", "\x01\x00a", text(70000, 1)} {
			r := New(all + behind)
			got, e := r.Text()
			gave(t, "Text", got, e, want, api.OK)
			stands(t, "behind it", r, len(behind), api.OK)
		}
	}
}

// P7.2: Texts, cut off at each byte, whole, and with bytes behind it.
func TestReaderTexts(t *testing.T) {
	for _, l := range [][]string{nil, {""}, {"a"}, {"", ""}, {"a", "", "bc"}, {"", "abc", ""}, {text(300, 0), text(2, 1), text(260, 2)}} {
		all := textsOf(l...)
		for cut := range all {
			r := New(all[:cut])
			got, e := r.Texts()
			listed(t, "Texts that is cut off", got, e, nil, api.ErrEnd)
			stands(t, "behind it", r, cut, api.ErrEnd)
		}
		for _, behind := range []string{"", "\x00", "\x01\x00a", "\x02\x00"} {
			r := New(all + behind)
			got, e := r.Texts()
			listed(t, "Texts", got, e, l, api.OK)
			stands(t, "behind it", r, len(behind), api.OK)
		}
	}
}

// P7.2: Texts of as many strings as may be; of more, whether they are there or not; of fewer than it says.
func TestReaderTextsMany(t *testing.T) {
	for _, n := range []int{255, 256, 257, 4095, 4096} {
		l := many(n, n-1, "last")
		l[0] = "first"
		all := textsOf(l...)
		r := New(all + "x")
		got, e := r.Texts()
		listed(t, "Texts", got, e, l, api.OK)
		stands(t, "behind it", r, 1, api.OK)
		for _, s := range []string{all[:2], all[:3], all[:len(all)-6], all[:len(all)-1]} {
			r := New(s)
			got, e := r.Texts()
			listed(t, "Texts that is cut off", got, e, nil, api.ErrEnd)
			stands(t, "behind it", r, len(s), api.ErrEnd)
		}
	}
	for _, n := range []int{4097, 4098, 4352, 8192, 32768, 65535} {
		head := numOf(uint64(n), 2)
		for _, s := range []string{head, head + "\x00", head + strings.Repeat("\x00\x00", n), head + strings.Repeat("\x00\x00", n-1) + "\x00"} {
			r := New(s)
			got, e := r.Texts()
			listed(t, "Texts of too many", got, e, nil, api.ErrForm)
			stands(t, "behind it", r, len(s), api.ErrForm)
		}
	}
}

// P7.2: what is written out by hand: a string that is cut off at its length or in its bytes, the first one and a later one.
func TestReaderTextsCut(t *testing.T) {
	for _, s := range []string{"", "\x00", "\x01", "\x01\x00", "\x01\x00\x00", "\x01\x00\x01", "\x01\x00\x01\x00", "\x01\x00\x02\x00a", "\x01\x00\x00\x01a", "\x02\x00\x01\x00a", "\x02\x00\x01\x00a\x00", "\x02\x00\x01\x00a\x01\x00", "\x02\x00\x01\x00a\x03\x00bc", "\x03\x00\x00\x00\x00\x00", "\x03\x00\x00\x00\xff\xffa\x00\x00", "\x00\x10", "\x00\x10\x00\x00"} {
		r := New(s)
		got, e := r.Texts()
		listed(t, "Texts that is cut off", got, e, nil, api.ErrEnd)
		stands(t, "behind it", r, len(s), api.ErrEnd)
	}
}

// faults: each way in which a reader of "\x01\x10\x00" fails at once.
func faults() []struct {
	name string
	do   func(*Reader) api.Errno
	want api.Errno
} {
	return []struct {
		name string
		do   func(*Reader) api.Errno
		want api.Errno
	}{
		{"Take(-1)", func(r *Reader) api.Errno { _, e := r.Take(-1); return e }, api.ErrArg},
		{"Take(4)", func(r *Reader) api.Errno { _, e := r.Take(4); return e }, api.ErrEnd},
		{"Num(0)", func(r *Reader) api.Errno { _, e := r.Num(0); return e }, api.ErrArg},
		{"Num(5)", func(r *Reader) api.Errno { _, e := r.Num(5); return e }, api.ErrArg},
		{"Num(4)", func(r *Reader) api.Errno { _, e := r.Num(4); return e }, api.ErrEnd},
		{"Text", func(r *Reader) api.Errno { _, e := r.Text(); return e }, api.ErrEnd},
		{"Texts", func(r *Reader) api.Errno { _, e := r.Texts(); return e }, api.ErrForm},
		{"End", (*Reader).End, api.ErrForm},
	}
}

// refused: that each call, whatever it is asked, answers that error and nothing else, and that so many bytes are left.
func refused(t *testing.T, what string, r *Reader, left int, want api.Errno) {
	t.Helper()
	for _, n := range []int{math.MinInt, -1, 0, 1, 2, 3, 4, 5, math.MaxInt} {
		s, e := r.Take(n)
		gave(t, what+", Take", s, e, "", want)
		if v, e := r.Num(n); v != 0 || e != want {
			t.Fatalf("%s, Num(%d): %d, %d; want %d", what, n, v, e, want)
		}
	}
	s, e := r.Text()
	gave(t, what+", Text", s, e, "", want)
	l, e := r.Texts()
	listed(t, what+", Texts", l, e, nil, want)
	is(t, what+", End", r.End(), want)
	stands(t, what, r, left, want)
}

// P7.2, P7.3: whatever fails a reader: its first error stays, and nothing is read any more, at its beginning and further on.
func TestFailed(t *testing.T) {
	for _, x := range faults() {
		r := New("\x01\x10\x00")
		is(t, x.name, x.do(r), x.want)
		refused(t, "behind "+x.name, r, 3, x.want)
		for _, y := range faults() {
			is(t, y.name+" behind "+x.name, y.do(r), x.want)
		}
		refused(t, "behind all behind "+x.name, r, 3, x.want)

		r = New("\x02\x00ab\x01\x00\x00\x00\x07\x01\x10\x00")
		s, e := r.Text()
		gave(t, "Text", s, e, "ab", api.OK)
		l, e := r.Texts()
		listed(t, "Texts", l, e, []string{""}, api.OK)
		if v, e := r.Num(1); v != 7 || e != api.OK {
			t.Errorf("Num(1): %d, %d", v, e)
		}
		stands(t, "before "+x.name, r, 3, api.OK)
		is(t, x.name, x.do(r), x.want)
		refused(t, "behind "+x.name, r, 3, x.want)
	}
}

// P7.3: End with nothing left, from the beginning and at the end, asked again, and what can be asked behind it.
func TestEnd(t *testing.T) {
	for _, s := range []string{"", "a", "abc"} {
		r := New(s)
		_, e := r.Take(len(s))
		is(t, "Take of all", e, api.OK)
		for range 3 {
			is(t, "End", r.End(), api.OK)
			stands(t, "behind End", r, 0, api.OK)
		}
		got, e := r.Take(0)
		gave(t, "Take(0) behind End", got, e, "", api.OK)
		is(t, "End", r.End(), api.OK)
		if v, e := r.Num(1); v != 0 || e != api.ErrEnd {
			t.Errorf("Num(1) behind End: %d, %d", v, e)
		}
		refused(t, "at the end", r, 0, api.ErrEnd)
	}
}

// P7.3: End with bytes left, of all numbers of them.
func TestEndLeft(t *testing.T) {
	for _, n := range []int{1, 2, 255, 256, 65536} {
		r := New(text(n, 0))
		is(t, "End", r.End(), api.ErrForm)
		refused(t, "behind End", r, n, api.ErrForm)
		r = New(text(n, 0))
		_, e := r.Take(n - 1)
		is(t, "Take of all but one", e, api.OK)
		stands(t, "before End", r, 1, api.OK)
		is(t, "End", r.End(), api.ErrForm)
		refused(t, "behind End", r, 1, api.ErrForm)
	}
}

// P7.2, P7.3: a reader that is nil.
func TestNil(t *testing.T) {
	refused(t, "nil", nil, 0, api.ErrNil)
	for _, x := range faults() {
		is(t, x.name, x.do(nil), api.ErrNil)
	}
}

// P7.2: two readers of the same bytes have their places and faults apart.
func TestReadersApart(t *testing.T) {
	s := "\x01\x00a\x01\x00b"
	a, b, c := New(s), New(s), New(s)
	got, e := a.Text()
	gave(t, "Text", got, e, "a", api.OK)
	is(t, "End", c.End(), api.ErrForm)
	stands(t, "the first", a, 3, api.OK)
	stands(t, "the second", b, 6, api.OK)
	got, e = b.Take(1)
	gave(t, "Take", got, e, "\x01", api.OK)
	got, e = a.Text()
	gave(t, "Text", got, e, "b", api.OK)
	stands(t, "the second", b, 5, api.OK)
	stands(t, "the third", c, 6, api.ErrForm)
}

// laid: something that was serialized, and that it is read again.
type laid struct {
	bytes string
	read  func(*testing.T, *Reader)
}

func laidNum(t *testing.T, v uint32, n int) laid {
	s, e := Num(v, n)
	is(t, "Num", e, api.OK)
	return laid{s, func(t *testing.T, r *Reader) {
		if got, e := r.Num(n); got != v || e != api.OK {
			t.Fatalf("Num(%d): %d, %d; want %d", n, got, e, v)
		}
	}}
}

func laidText(t *testing.T, s string) laid {
	b, e := Text(s)
	is(t, "Text", e, api.OK)
	return laid{b, func(t *testing.T, r *Reader) {
		got, e := r.Text()
		gave(t, "Text", got, e, s, api.OK)
	}}
}

func laidTexts(t *testing.T, l []string) laid {
	b, e := Texts(l...)
	is(t, "Texts", e, api.OK)
	return laid{b, func(t *testing.T, r *Reader) {
		got, e := r.Texts()
		listed(t, "Texts", got, e, l, api.OK)
	}}
}

func laidAny(t *testing.T, random *rand.Rand) laid {
	switch random.Intn(4) {
	case 0:
		n := 1 + random.Intn(4)
		return laidNum(t, random.Uint32()>>(8*(4-n)), n)
	case 1:
		return laidText(t, anyBytes(random, random.Intn(400)))
	case 2:
		return laidTexts(t, anyTexts(random))
	}
	s := anyBytes(random, random.Intn(10))
	return laid{s, func(t *testing.T, r *Reader) {
		got, e := r.Take(len(s))
		gave(t, "Take", got, e, s, api.OK)
	}}
}

// P7.4: what was serialized is read back, in order, whatever follows.
func TestReadBack(t *testing.T) {
	random := rand.New(rand.NewSource(4))
	greatest := []laid{laidNum(t, math.MaxUint32, 4), laidTexts(t, make([]string, 4096)), laidText(t, text(65535, 0)), laidTexts(t, []string{"", text(65535, 1), ""}), laidTexts(t, nil), laidText(t, ""), laidNum(t, 0, 1)}
	for round := range 3000 {
		parts := greatest
		if round > 0 {
			parts = nil
			for range random.Intn(9) {
				parts = append(parts, laidAny(t, random))
			}
		}
		all := ""
		for _, x := range parts {
			all += x.bytes
		}
		for _, behind := range []string{"", "\x00", "\xff\xff", anyBytes(random, random.Intn(9))} {
			r := New(all + behind)
			read := 0
			for _, x := range parts {
				x.read(t, r)
				read += len(x.bytes)
				stands(t, "behind a part", r, len(all+behind)-read, api.OK)
			}
			end := api.OK
			if behind != "" {
				end = api.ErrForm
			}
			is(t, "End", r.End(), end)
		}
	}
}

// P7.4: what is read of any bytes, serialized again, is the bytes that it was read of.
func TestSerializedAgain(t *testing.T) {
	again := func(s string) {
		r := New(s)
		if l, e := r.Texts(); e == api.OK {
			got, e := Texts(l...)
			gave(t, "Texts again", got, e, s[:len(s)-r.Left()], api.OK)
		}
		r = New(s)
		if x, e := r.Text(); e == api.OK {
			got, e := Text(x)
			gave(t, "Text again", got, e, s[:len(s)-r.Left()], api.OK)
		}
		for n := 1; n <= 4; n++ {
			r = New(s)
			if v, e := r.Num(n); e == api.OK {
				got, e := Num(v, n)
				gave(t, "Num again", got, e, s[:len(s)-r.Left()], api.OK)
			}
		}
	}
	each(8, "\x00\x01\x02", again)
	random := rand.New(rand.NewSource(5))
	for range 20000 {
		again(textsOf(anyTexts(random)...) + anyBytes(random, random.Intn(4)))
		again(serialized(random))
	}
	again(textsOf(make([]string, 4096)...))
	again(textsOf(many(4096, 17, text(65535, 0))...) + "\x00")
}

// R5: the list that is serialized is neither changed nor kept.
func TestListIsTheirs(t *testing.T) {
	l := []string{"a", text(300, 0), "", "z"}
	was := slices.Clone(l)
	s, e := Texts(l...)
	if !slices.Equal(l, was) {
		t.Errorf("the list became %q", l)
	}
	clear(l)
	gave(t, "Texts", s, e, textsOf(was...), api.OK)
	l = append(was[:3:3], text(65536, 0))
	was = slices.Clone(l)
	_, e = Texts(l...)
	is(t, "Texts of a string that is too long", e, api.ErrLong)
	if !slices.Equal(l, was) {
		t.Errorf("the list became %.99q", l)
	}
}

// R5: the bytes that are read are not changed, and a list that was read is the caller's alone.
func TestBytesAreTheirs(t *testing.T) {
	s := textsOf("a", "bc", "") + textsOf("a", "bc", "")
	was := strings.Clone(s)
	r, other := New(s), New(s)
	one, e := r.Texts()
	listed(t, "Texts", one, e, []string{"a", "bc", ""}, api.OK)
	clear(one)
	one = append(one, "d")
	two, e := r.Texts()
	listed(t, "Texts behind it", two, e, []string{"a", "bc", ""}, api.OK)
	three, e := other.Texts()
	listed(t, "Texts of another reader", three, e, []string{"a", "bc", ""}, api.OK)
	clear(two)
	listed(t, "that of another reader", three, api.OK, []string{"a", "bc", ""}, api.OK)
	if s != was || len(one) != 4 {
		t.Errorf("the bytes became %q", s)
	}
}

// R5: what is read is new memory.
func TestNewMemory(t *testing.T) {
	s := text(40, 0) + textOf(text(40, 1)) + textsOf(text(40, 2), text(40, 3))
	r := New(s)
	taken, _ := r.Take(40)
	one, _ := r.Text()
	l, _ := r.Texts()
	is(t, "End", r.End(), api.OK)
	first := uintptr(unsafe.Pointer(unsafe.StringData(s)))
	for _, x := range append(l, taken, one) {
		if at := uintptr(unsafe.Pointer(unsafe.StringData(x))); len(x) != 40 || at >= first && at < first+uintptr(len(s)) {
			t.Errorf("%q of %d bytes lies in the bytes that were read", x, len(x))
		}
	}
}

// P7.2, P7.3: a reader shows the chapter's methods and no other one: those of its place are not to be seen.
func TestMethods(t *testing.T) {
	var l []string
	for i := range reflect.TypeFor[*Reader]().NumMethod() {
		l = append(l, reflect.TypeFor[*Reader]().Method(i).Name)
	}
	if want := []string{"End", "Fault", "Left", "Num", "Take", "Text", "Texts"}; !slices.Equal(l, want) {
		t.Errorf("a reader has %q; want %q", l, want)
	}
}
