package sha

import (
	"crypto/sha256"
	"encoding/hex"
	"slices"
	"strings"
	"testing"

	"aedicule/api"
)

// model: the digest, by the library.
func model(s string) string {
	d := sha256.Sum256([]byte(s))
	return string(d[:])
}

// text: n bytes of all values, without a period that fits a block.
func text(n int) string {
	b := make([]byte, n)
	for i := range b {
		b[i] = byte(i*167 + i*i/251 + i>>8)
	}
	return string(b)
}

// check: that what was written to h is s.
func check(t *testing.T, what string, h *Hash, s string) {
	t.Helper()
	if d := h.Sum(); d != model(s) {
		t.Fatalf("%s: the sum of %d bytes is %x; want %x", what, len(s), d, model(s))
	}
	if n := h.Len(); n != len(s) {
		t.Fatalf("%s: Len is %d; want %d", what, n, len(s))
	}
}

// write: that Write answers OK.
func write(t *testing.T, h *Hash, l ...string) {
	t.Helper()
	if e := h.Write(l...); e != api.OK {
		t.Fatalf("Write of %d strings: %v", len(l), e)
	}
}

// P2.1, P2.2: the chapter's examples and those that are published with the standard.
func TestExamples(t *testing.T) {
	for _, x := range []struct{ s, want string }{
		{"", "e3b0c44298fc1c149afbf4c8996fb92427ae41e4649b934ca495991b7852b855"},
		{"abc", "ba7816bf8f01cfea414140de5dae2223b00361a396177a9cb410ff61f20015ad"},
		{"abcdbcdecdefdefgefghfghighijhijkijkljklmklmnlmnomnopnopq", "248d6a61d20638b8e5c026930c3e6039a33ce45964ff2167f6ecedd419db06c1"},
		{"abcdefghbcdefghicdefghijdefghijkefghijklfghijklmghijklmnhijklmnoijklmnopjklmnopqklmnopqrlmnopqrsmnopqrstnopqrstu", "cf5b16a778af8380036ce59e7b0492370b249b11e8f07a51afac45037afee9d1"},
		{strings.Repeat("a", 1000000), "cdc76e5c9914fb9281a1c7e284d73e67f1809a48a497200e046d39ccc7112cd0"},
	} {
		if d := hex.EncodeToString([]byte(Sum(x.s))); d != x.want {
			t.Errorf("Sum of %d bytes: %s; want %s", len(x.s), d, x.want)
		}
		h := New()
		write(t, h, x.s)
		if d := hex.EncodeToString([]byte(h.Sum())); d != x.want {
			t.Errorf("Hash.Sum of %d bytes: %s; want %s", len(x.s), d, x.want)
		}
	}
}

// P2.1: every length around the ends of some blocks, and bytes of all values.
func TestSumLengths(t *testing.T) {
	all := text(5*blockSize + 1)
	for n := range len(all) + 1 {
		for _, s := range []string{all[:n], strings.Repeat("\x00", n), strings.Repeat("\xff", n), strings.Repeat("\x80", n)} {
			if d := Sum(s); d != model(s) || len(d) != api.ShaSize {
				t.Errorf("Sum(%q): %x; want %x", s, d, model(s))
			}
		}
	}
	for _, n := range []int{1 << 10, 1<<13 - 1, 1<<16 - 9, 1<<16 + 55, 1<<16 + 56, 1 << 20} {
		if s := text(n); Sum(s) != model(s) {
			t.Errorf("Sum of %d bytes: %x; want %x", n, Sum(s), model(s))
		}
	}
}

// P2.1: each bit of a text tells, and so does a byte 0 or 128 at its end, of which the padding is made.
func TestSumTellsApart(t *testing.T) {
	for _, n := range []int{0, 1, 55, 56, 63, 64, 65, 119, 128} {
		s := text(n)
		seen := map[string]string{Sum(s): s}
		tell := func(other string) {
			d := Sum(other)
			if was, is := seen[d]; is {
				t.Errorf("%q and %q have one sum", was, other)
			}
			seen[d] = other
		}
		tell(s + "\x00")
		tell(s + "\x80")
		tell(s + padding(n))
		for i := range 8 * n {
			b := []byte(s)
			b[i/8] ^= 1 << (i % 8)
			tell(string(b))
		}
	}
}

// P2.1: a text of 2^32 bits and some, whose number of bits needs a fifth byte.
func TestSumOfManyBits(t *testing.T) {
	piece := text(1 << 20)
	h, m := New(), sha256.New()
	for range 1 << 9 {
		write(t, h, piece)
		m.Write([]byte(piece))
	}
	write(t, h, "end")
	m.Write([]byte("end"))
	if d, want := h.Sum(), string(m.Sum(nil)); d != want || h.Len() != 1<<29+3 {
		t.Errorf("%x, %d bytes; want %x", d, h.Len(), want)
	}
}

// P2.2: a new hash, and one to which nothing is written, in each way that there is.
func TestNothingWritten(t *testing.T) {
	h := New()
	if h == nil {
		t.Fatal("New returns nil")
	}
	check(t, "new", h, "")
	write(t, h)
	check(t, "no strings", h, "")
	write(t, h, []string(nil)...)
	check(t, "a list that is nil", h, "")
	write(t, h, []string{}...)
	check(t, "an empty list", h, "")
	write(t, h, "", "", "")
	check(t, "empty strings", h, "")
	if h.Sum() != Sum("") {
		t.Errorf("%x; want %x", h.Sum(), Sum(""))
	}
}

// P2.2: many strings in one Write, in their order, with empty ones between.
func TestManyStrings(t *testing.T) {
	h := New()
	write(t, h, "a", "", "b", "c", "")
	check(t, "letters", h, "abc")
	write(t, h, "", text(61), text(64), "", text(65), text(200))
	check(t, "longer ones", h, "abc"+text(61)+text(64)+text(65)+text(200))
	if h.Sum() == Sum("acb"+text(61)+text(64)+text(65)+text(200)) {
		t.Error("the order does not tell")
	}
	var l []string
	s := ""
	for n := range 300 {
		l = append(l, text(n%7))
		s += text(n % 7)
	}
	h = New()
	write(t, h, l...)
	check(t, "300 strings", h, s)
}

// P2.2: a sum that is asked changes nothing, whether it is asked once or twice, or after each byte.
func TestWriteOnAfterSum(t *testing.T) {
	s := text(4*blockSize + 3)
	h := New()
	for i := range len(s) {
		check(t, "asked", h, s[:i])
		check(t, "asked again", h, s[:i])
		write(t, h, s[i:i+1])
	}
	check(t, "at the end", h, s)
}

// P2.2: two hashes have nothing in common.
func TestHashesApart(t *testing.T) {
	a, b := New(), New()
	write(t, a, text(70))
	check(t, "the other", b, "")
	write(t, b, "x", text(60))
	check(t, "the one", a, text(70))
	write(t, a, "y")
	check(t, "the one", a, text(70)+"y")
	check(t, "the other", b, "x"+text(60))
	check(t, "a third", New(), "")
}

// R5: the list that is written is neither changed nor kept.
func TestListIsTheirs(t *testing.T) {
	l := []string{"a", text(64), "", "z"}
	was := slices.Clone(l)
	h := New()
	write(t, h, l...)
	if !slices.Equal(l, was) {
		t.Errorf("the list became %q", l)
	}
	clear(l)
	check(t, "the list is cleared", h, strings.Join(was, ""))
}

// P2.2: a hash that is nil.
func TestNil(t *testing.T) {
	var h *Hash
	for _, l := range [][]string{nil, {}, {""}, {"abc"}, {"", text(64), "x"}} {
		if e := h.Write(l...); e != api.ErrNil {
			t.Errorf("Write(%q): %v", l, e)
		}
		if d := h.Sum(); d != "" {
			t.Errorf("Sum: %q", d)
		}
		if n := h.Len(); n != 0 {
			t.Errorf("Len: %d", n)
		}
	}
}

// P2.3: a text divided into two, at each place, by one Write and by two.
func TestDividedInTwo(t *testing.T) {
	for _, n := range []int{0, 1, 55, 56, 63, 64, 65, 127, 128, 129, 200} {
		s := text(n)
		for i := range n + 1 {
			one, two := New(), New()
			write(t, one, s[:i], s[i:])
			check(t, "one Write", one, s)
			write(t, two, s[:i])
			write(t, two, s[i:])
			check(t, "two of them", two, s)
		}
	}
}

// P2.3: a text divided into pieces of one length, for each length.
func TestDividedEvenly(t *testing.T) {
	s := text(1000)
	for n := 1; n <= 3*blockSize; n++ {
		var l []string
		each := New()
		for i := 0; i < len(s); i += n {
			piece := s[i:min(i+n, len(s))]
			l = append(l, piece)
			write(t, each, piece)
		}
		check(t, "many Writes", each, s)
		all := New()
		write(t, all, l...)
		check(t, "one Write", all, s)
	}
}
