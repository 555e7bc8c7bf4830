package mac

import (
	"crypto/hmac"
	"crypto/sha256"
	"encoding/hex"
	"reflect"
	"slices"
	"strings"
	"testing"

	"aedicule/api"
	"aedicule/sha"
)

// model: the sum, by the library.
func model(key, text string) string {
	m := hmac.New(sha256.New, []byte(key))
	m.Write([]byte(text))
	return string(m.Sum(nil))
}

// text: n bytes of all values, without a period that fits a block; others for each seed.
func text(n, seed int) string {
	b := make([]byte, n)
	for i := range b {
		b[i] = byte(seed + i*167 + i*i/251 + i>>8)
	}
	return string(b)
}

// check: that what was written to m, by that key, is s.
func check(t *testing.T, what string, m *Mac, key, s string) {
	t.Helper()
	if d := m.Sum(); d != model(key, s) {
		t.Fatalf("%s: key %q: the sum of %d bytes is %x; want %x", what, key, len(s), d, model(key, s))
	}
}

// write: that Write answers OK.
func write(t *testing.T, m *Mac, l ...string) {
	t.Helper()
	if e := m.Write(l...); e != api.OK {
		t.Fatalf("Write of %d strings: %v", len(l), e)
	}
}

// keys: of all lengths around the block's and the digest's, ones that end in bytes 0, and digests.
func keys() []string {
	var l []string
	for n := range 2*blockSize + 3 {
		l = append(l, text(n, 7))
	}
	for _, n := range []int{1, 31, 32, 33, 63, 64, 65, 66, 127, 128, 129} {
		l = append(l, strings.Repeat("\x00", n), strings.Repeat("\xff", n), strings.Repeat("\x36", n), strings.Repeat("\x5c", n), text(n-1, 7)+"\x00")
	}
	return append(l, sha.Sum(""), sha.Sum(text(64, 7)), sha.Sum(text(65, 7)), text(1000, 7), text(1<<16, 7))
}

// P3.1, P3.2: the chapter's examples and those that RFC 4231 publishes.
func TestExamples(t *testing.T) {
	counted := make([]byte, 25)
	for i := range counted {
		counted[i] = byte(i + 1)
	}
	long := strings.Repeat("\xaa", 131)
	for _, x := range []struct{ key, text, want string }{
		{"Jefe", "what do ya want for nothing?", "5bdcc146bf60754e6a042426089575c75a003f089d2739839dec58b964ec3843"},
		{strings.Repeat("\x0b", 20), "Hi There", "b0344c61d8db38535ca8afceaf0bf12b881dc200c9833da726e9376c2e32cff7"},
		{strings.Repeat("\xaa", 20), strings.Repeat("\xdd", 50), "773ea91e36800e46854db8ebd09181a72959098b3ef8c122d9635514ced565fe"},
		{string(counted), strings.Repeat("\xcd", 50), "82558a389a443c0ea4cc819899f2083a85f0faa3e578f8077a2e3ff46729665b"},
		{long, "Test Using Larger Than Block-Size Key - Hash Key First", "60e431591ee0b67f0d8a26aacbf5b77f8e0bc6213728c5140546040f0ee37f54"},
		{long, "This is a test using a larger than block-size key and a larger than block-size data. The key needs to be hashed before being used by the HMAC algorithm.", "9b09ffa71b942fcb27635fbcd5b0e944bfdc63644f0713938a7f51535c3a35e2"},
		{"", "", "b613679a0814d9ec772f95d778c35fc5ff1697c493715653c6c712144292c5ad"},
	} {
		sum := Sum(x.key, x.text)
		if d := hex.EncodeToString([]byte(sum)); d != x.want {
			t.Errorf("Sum(%q, %q): %s; want %s", x.key, x.text, d, x.want)
		}
		if !Check(x.key, x.text, sum) || Check(x.key, x.text, x.want) {
			t.Errorf("Check(%q, %q): the sum %v, its digits %v", x.key, x.text, Check(x.key, x.text, sum), Check(x.key, x.text, x.want))
		}
		m := New(x.key)
		write(t, m, x.text)
		if d := hex.EncodeToString([]byte(m.Sum())); d != x.want {
			t.Errorf("Mac.Sum of %q, %q: %s; want %s", x.key, x.text, d, x.want)
		}
	}
}

// P3.1: keys and texts of all lengths around the ends of blocks, the empty ones among them.
func TestSumLengths(t *testing.T) {
	for _, key := range keys() {
		for _, n := range []int{0, 1, 31, 32, 33, 54, 55, 56, 63, 64, 65, 119, 120, 128, 200} {
			for _, s := range []string{text(n, 0), strings.Repeat("\x00", n)} {
				d := Sum(key, s)
				if d != model(key, s) || len(d) != api.ShaSize {
					t.Errorf("Sum(%q, %q): %x; want %x", key, s, d, model(key, s))
				}
				if !Check(key, s, d) {
					t.Errorf("Check(%q, %q, its sum): false", key, s)
				}
			}
		}
	}
	if s := text(1<<20+5, 0); Sum("key", s) != model("key", s) {
		t.Errorf("Sum of %d bytes: %x; want %x", len(s), Sum("key", s), model("key", s))
	}
}

// P3.1: each bit of the key and of the text tells, and where the one ends and the other begins.
func TestSumTellsApart(t *testing.T) {
	for _, n := range []int{0, 1, 32, 63, 64, 65, 130} {
		key, s := text(n, 7), text(n, 0)
		was := Sum(key, s)
		for i := range 8 * n {
			if Sum(flip(key, i), s) == was {
				t.Errorf("key of %d bytes: bit %d does not tell", n, i)
			}
			if Sum(key, flip(s, i)) == was {
				t.Errorf("text of %d bytes: bit %d does not tell", n, i)
			}
		}
		if Sum(key+"\x01", s) == was || Sum(key, s+"\x00") == was || Sum("\x00"+key, "\x00"+s) == was {
			t.Errorf("%d bytes: one more does not tell", n)
		}
	}
	if Sum("ab", "c") == Sum("a", "bc") || Sum("ab", "cd") == Sum("cd", "ab") {
		t.Error("key and text are not told apart")
	}
}

// flip: s with its bit i changed.
func flip(s string, i int) string {
	b := []byte(s)
	b[i/8] ^= 1 << (i % 8)
	return string(b)
}

// P3.1: Check of every sum that is nearly right.
func TestCheckWrong(t *testing.T) {
	for _, key := range []string{"", "key", text(64, 7), text(65, 7)} {
		for _, s := range []string{"", "text", text(200, 0)} {
			sum := Sum(key, s)
			if !Check(key, s, sum) {
				t.Errorf("Check(%q, %q, its sum): false", key, s)
			}
			for i := range 8 * len(sum) {
				if Check(key, s, flip(sum, i)) {
					t.Errorf("Check(%q, %q): with bit %d changed: true", key, s, i)
				}
			}
			wrong := []string{"", sum + "\x00", "\x00" + sum, sum + sum, sum + sum[31:], strings.Repeat("\x00", 32), sha.Sum(key + s), sha.Sum(s), Sum(s+"x", key), Sum(key, s+"x"), Sum(key+"x", s), hex.EncodeToString([]byte(sum))}
			for n := range sum {
				wrong = append(wrong, sum[:n], sum[n+1:])
			}
			for _, w := range wrong {
				if Check(key, s, w) {
					t.Errorf("Check(%q, %q, %x): true; the sum is %x", key, s, w, sum)
				}
			}
			if Check(key+"x", s, sum) || Check(key, s+"x", sum) {
				t.Errorf("Check of another key or text than %q, %q: true", key, s)
			}
		}
	}
}

// P3.2: nothing written, in each way that there is.
func TestNothingWritten(t *testing.T) {
	for _, key := range keys() {
		m := New(key)
		if m == nil {
			t.Fatalf("New(%q) is nil", key)
		}
		check(t, "new", m, key, "")
		write(t, m)
		check(t, "no strings", m, key, "")
		write(t, m, []string(nil)...)
		check(t, "a list that is nil", m, key, "")
		write(t, m, []string{}...)
		check(t, "an empty list", m, key, "")
		write(t, m, "", "", "")
		check(t, "empty strings", m, key, "")
		if m.Sum() != Sum(key, "") {
			t.Errorf("key %q: %x; want %x", key, m.Sum(), Sum(key, ""))
		}
	}
}

// P3.2: many strings in one Write, in their order, with empty ones between.
func TestManyStrings(t *testing.T) {
	for _, key := range []string{"", "key", text(64, 7), text(65, 7)} {
		m := New(key)
		write(t, m, "a", "", "b", "c", "")
		check(t, "letters", m, key, "abc")
		write(t, m, "", text(61, 0), text(64, 1), "", text(65, 2), text(200, 3))
		check(t, "longer ones", m, key, "abc"+text(61, 0)+text(64, 1)+text(65, 2)+text(200, 3))
		var l []string
		for n := range 300 {
			l = append(l, text(n%7, n))
		}
		m = New(key)
		write(t, m, l...)
		check(t, "300 strings", m, key, strings.Join(l, ""))
	}
}

// P3.2: a sum that is asked changes nothing, whether it is asked once or twice, or after each byte.
func TestWriteOnAfterSum(t *testing.T) {
	s := text(4*blockSize+3, 0)
	for _, key := range []string{"", "key", text(64, 7), text(65, 7)} {
		m := New(key)
		for i := range len(s) {
			check(t, "asked", m, key, s[:i])
			check(t, "asked again", m, key, s[:i])
			write(t, m, s[i:i+1])
		}
		check(t, "at the end", m, key, s)
	}
}

// P3.2: macs have nothing in common, by one key or by two.
func TestMacsApart(t *testing.T) {
	a, b, c := New("one"), New("one"), New(text(65, 7))
	write(t, a, text(70, 0))
	check(t, "the second", b, "one", "")
	check(t, "the third", c, text(65, 7), "")
	write(t, b, "x", text(60, 1))
	write(t, c, "z")
	check(t, "the first", a, "one", text(70, 0))
	write(t, a, "y")
	check(t, "the first", a, "one", text(70, 0)+"y")
	check(t, "the second", b, "one", "x"+text(60, 1))
	check(t, "the third", c, text(65, 7), "z")
	check(t, "a fourth", New("one"), "one", "")
}

// R5: the list that is written is neither changed nor kept.
func TestListIsTheirs(t *testing.T) {
	l := []string{"a", text(64, 0), "", "z"}
	was := slices.Clone(l)
	m := New("key")
	write(t, m, l...)
	if !slices.Equal(l, was) {
		t.Errorf("the list became %q", l)
	}
	clear(l)
	check(t, "the list is cleared", m, "key", strings.Join(was, ""))
}

// P3.2: a mac that is nil.
func TestNil(t *testing.T) {
	var m *Mac
	for _, l := range [][]string{nil, {}, {""}, {"abc"}, {"", text(64, 0), "x"}} {
		if e := m.Write(l...); e != api.ErrNil {
			t.Errorf("Write(%q): %v", l, e)
		}
		if d := m.Sum(); d != "" {
			t.Errorf("Sum: %q", d)
		}
	}
}

// P3.2, R1: a mac shows no more methods than the chapter has, so none of the hash's that nil would make panic.
func TestMethods(t *testing.T) {
	var l []string
	for i := range reflect.TypeFor[*Mac]().NumMethod() {
		l = append(l, reflect.TypeFor[*Mac]().Method(i).Name)
	}
	if !slices.Equal(l, []string{"Sum", "Write"}) {
		t.Errorf("a mac has %q", l)
	}
}

// P3.3: a text divided into two, at each place, by one Write and by two.
func TestDividedInTwo(t *testing.T) {
	for _, key := range []string{"", text(64, 7), text(65, 7)} {
		for _, n := range []int{0, 1, 55, 56, 63, 64, 65, 127, 128, 129, 200} {
			s := text(n, 0)
			want := Sum(key, s)
			for i := range n + 1 {
				one, two := New(key), New(key)
				write(t, one, s[:i], s[i:])
				write(t, two, s[:i])
				write(t, two, s[i:])
				if one.Sum() != want || two.Sum() != want {
					t.Errorf("key %q, %d bytes divided at %d: %x by one Write, %x by two; want %x", key, n, i, one.Sum(), two.Sum(), want)
				}
			}
		}
	}
}

// P3.3: a text divided into pieces of one length, for each length.
func TestDividedEvenly(t *testing.T) {
	s := text(1000, 0)
	for n := 1; n <= 3*blockSize; n++ {
		var l []string
		each, all := New("key"), New("key")
		for i := 0; i < len(s); i += n {
			piece := s[i:min(i+n, len(s))]
			l = append(l, piece)
			write(t, each, piece)
		}
		write(t, all, l...)
		check(t, "many Writes", each, "key", s)
		check(t, "one Write", all, "key", s)
	}
}

// P3.3: bytes 0 that are appended to a key change nothing up to 64 bytes, and tell beyond; before it they tell.
func TestKeyAndNoughts(t *testing.T) {
	for n := range blockSize + 1 {
		key := text(n, 7)
		want := Sum(key, "text")
		for more := 0; n+more <= blockSize; more++ {
			if same := key + strings.Repeat("\x00", more); Sum(same, "text") != want || !Check(same, "text", want) || fed(same, "text") != want {
				t.Errorf("a key of %d bytes, and %d bytes 0: another sum", n, more)
			}
		}
		if other := key + strings.Repeat("\x00", blockSize+1-n); Sum(other, "text") == want || Check(other, "text", want) || fed(other, "text") == want {
			t.Errorf("a key of %d bytes, with bytes 0 up to 65: the same sum", n)
		}
		if n > 0 && Sum("\x00"+key, "text") == want {
			t.Errorf("a key of %d bytes, after a byte 0: the same sum", n)
		}
	}
}

// fed: the sum of what is written to a new mac.
func fed(key string, l ...string) string {
	m := New(key)
	m.Write(l...)
	return m.Sum()
}

// P3.3: a key of more than 64 bytes and its digest are equivalent; a shorter one and its digest are not.
func TestKeyAndDigest(t *testing.T) {
	for _, key := range keys() {
		digest := sha.Sum(key)
		same := Sum(key, "text") == Sum(digest, "text")
		checks := Check(digest, "text", Sum(key, "text"))
		feeds := fed(key, "text") == fed(digest, "text")
		if want := len(key) > blockSize; same != want || checks != want || feeds != want {
			t.Errorf("a key of %d bytes and its digest: Sum %v, Check %v, Mac.Sum %v; want %v", len(key), same, checks, feeds, want)
		}
	}
}
