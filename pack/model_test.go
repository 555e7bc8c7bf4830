package pack

import (
	"fmt"
	"math/rand"
	"strings"
	"testing"

	"aedicule/api"
)

// numOf: v in n bytes, by divisions.
func numOf(v uint64, n int) string {
	var b []byte
	for range n {
		b = append(b, byte(v%256))
		v /= 256
	}
	return string(b)
}

// textOf: a string's encoding.
func textOf(s string) string { return numOf(uint64(len(s)), 2) + s }

// textsOf: a list's encoding.
func textsOf(l ...string) string {
	all := numOf(uint64(len(l)), 2)
	for _, s := range l {
		all += textOf(s)
	}
	return all
}

// model: a reader: all its bytes, how many were read, its fault.
type model struct {
	all   string
	read  int
	fault api.Errno
}

// value: the number whose n bytes stand from at on, by powers of 256.
func (m *model) value(at, n int) int {
	v, power := 0, 1
	for i := range n {
		v += power * int(m.all[at+i])
		power *= 256
	}
	return v
}

// outcome: what a call answers, as a text, and how far it read.
type outcome struct {
	told string
	read int
	e    api.Errno
}

func failed(e api.Errno) outcome { return outcome{e: e} }

func (m *model) take(n int) outcome {
	if n < 0 {
		return failed(api.ErrArg)
	}
	if n > len(m.all)-m.read {
		return failed(api.ErrEnd)
	}
	return outcome{told: fmt.Sprintf("%q", m.all[m.read:m.read+n]), read: m.read + n}
}

func (m *model) num(n int) outcome {
	if n <= 0 || n >= 5 {
		return failed(api.ErrArg)
	}
	if n > len(m.all)-m.read {
		return failed(api.ErrEnd)
	}
	return outcome{told: fmt.Sprint(m.value(m.read, n)), read: m.read + n}
}

// stringEnd: where the string that begins at ends; false if that is beyond the bytes.
func (m *model) stringEnd(at int) (int, bool) {
	if at+2 > len(m.all) {
		return 0, false
	}
	end := at + 2 + m.value(at, 2)
	return end, end <= len(m.all)
}

func (m *model) text() outcome {
	end, ok := m.stringEnd(m.read)
	if !ok {
		return failed(api.ErrEnd)
	}
	return outcome{told: fmt.Sprintf("%q", m.all[m.read+2:end]), read: end}
}

func (m *model) texts() outcome {
	if m.read+2 > len(m.all) {
		return failed(api.ErrEnd)
	}
	n, at := m.value(m.read, 2), m.read+2
	if n > 4096 {
		return failed(api.ErrForm)
	}
	var l []string
	for range n {
		end, ok := m.stringEnd(at)
		if !ok {
			return failed(api.ErrEnd)
		}
		l = append(l, m.all[at+2:end])
		at = end
	}
	return outcome{told: fmt.Sprintf("%q", l), read: at}
}

func (m *model) end() outcome {
	if m.read < len(m.all) {
		return failed(api.ErrForm)
	}
	return outcome{read: m.read}
}

// do: what a call answers by the model: its fault ahead of all else; an error becomes the fault, and nothing is read.
func (m *model) do(call func(*model) outcome) (string, api.Errno) {
	if m.fault != api.OK {
		return "", m.fault
	}
	o := call(m)
	if o.e != api.OK {
		m.fault = o.e
		return "", o.e
	}
	m.read = o.read
	return o.told, api.OK
}

// call: one of a reader's calls, by the reader and by the model.
type call struct {
	name   string
	reader func(*Reader) (string, api.Errno)
	model  func(*model) outcome
}

// told: an answer as a text; of an error, the empty text if nothing else is told.
func told(s string, zero bool, e api.Errno) (string, api.Errno) {
	if e != api.OK && zero {
		return "", e
	}
	return s, e
}

func taking(n int) call {
	return call{fmt.Sprintf("Take(%d)", n), func(r *Reader) (string, api.Errno) {
		s, e := r.Take(n)
		return told(fmt.Sprintf("%q", s), s == "", e)
	}, func(m *model) outcome { return m.take(n) }}
}

func numbering(n int) call {
	return call{fmt.Sprintf("Num(%d)", n), func(r *Reader) (string, api.Errno) {
		v, e := r.Num(n)
		return told(fmt.Sprint(v), v == 0, e)
	}, func(m *model) outcome { return m.num(n) }}
}

// calls: each of a reader's calls that may fail, with each argument that is of a kind of its own.
func calls() []call {
	l := []call{
		{"Text", func(r *Reader) (string, api.Errno) {
			s, e := r.Text()
			return told(fmt.Sprintf("%q", s), s == "", e)
		}, (*model).text},
		{"Texts", func(r *Reader) (string, api.Errno) {
			l, e := r.Texts()
			return told(fmt.Sprintf("%q", l), len(l) == 0, e)
		}, (*model).texts},
		{"End", func(r *Reader) (string, api.Errno) { return "", r.End() }, (*model).end},
	}
	for _, n := range []int{-1, 0, 1, 2, 3, 6} {
		l = append(l, taking(n))
	}
	for n := -1; n <= 6; n++ {
		l = append(l, numbering(n))
	}
	return l
}

// same: that the reader answers the call as the model does, and is in the same state then.
func same(t *testing.T, r *Reader, m *model, c call) {
	t.Helper()
	was := *m
	s, e := c.reader(r)
	if wantS, wantE := m.do(c.model); s != wantS || e != wantE {
		t.Fatalf("%s at %d of %.64q, fault %d: %.64s, %d; want %.64s, %d", c.name, was.read, was.all, was.fault, s, e, wantS, wantE)
	}
	for range 2 { // to ask changes nothing
		if left, fault := r.Left(), r.Fault(); left != len(m.all)-m.read || fault != m.fault {
			t.Fatalf("behind %s at %d of %.64q: %d left, fault %d; want %d, %d", c.name, was.read, was.all, left, fault, len(m.all)-m.read, m.fault)
		}
	}
}

// each: every text of at most n of those bytes.
func each(n int, bytes string, do func(string)) {
	l := []string{""}
	for len(l) > 0 {
		s := l[len(l)-1]
		l = l[:len(l)-1]
		do(s)
		if len(s) == n {
			continue
		}
		for i := range len(bytes) {
			l = append(l, s+bytes[i:i+1])
		}
	}
}

// P7.2, P7.3: all short texts, by each two calls, one after the other. With the bytes 0, 1 and 16 come lists of 4,096 strings and of 4,097.
func TestTwoCalls(t *testing.T) {
	all := calls()
	each(6, "\x00\x01\x02\x10", func(s string) {
		for _, one := range all {
			for _, two := range all {
				r, m := New(s), &model{all: s}
				same(t, r, m, one)
				same(t, r, m, two)
			}
		}
	})
}

// P7.2, P7.3: any bytes, by any calls, up to the end and beyond it.
func TestManyCalls(t *testing.T) {
	random := rand.New(rand.NewSource(7))
	all := calls()
	for range 30000 {
		s := serialized(random) + anyBytes(random, random.Intn(4))
		r, m := New(s), &model{all: s}
		for range 1 + random.Intn(12) {
			same(t, r, m, all[random.Intn(len(all))])
		}
		same(t, r, m, taking(len(s)-m.read))
		same(t, r, m, call{"End", func(r *Reader) (string, api.Errno) { return "", r.End() }, (*model).end})
	}
}

func anyBytes(random *rand.Rand, n int) string {
	b := make([]byte, n)
	random.Read(b)
	return string(b)
}

// serialized: some numbers, strings and lists, and now and then one of their bytes changed.
func serialized(random *rand.Rand) string {
	var b strings.Builder
	for range random.Intn(6) {
		switch random.Intn(3) {
		case 0:
			b.WriteString(anyBytes(random, 1+random.Intn(4)))
		case 1:
			b.WriteString(textOf(anyBytes(random, random.Intn(5))))
		case 2:
			b.WriteString(textsOf(anyTexts(random)...))
		}
	}
	s := []byte(b.String())
	if len(s) > 0 && random.Intn(4) == 0 {
		s[random.Intn(len(s))] = byte(random.Intn(18))
	}
	return string(s)
}

func anyTexts(random *rand.Rand) []string {
	l := make([]string, random.Intn(4))
	for i := range l {
		l[i] = anyBytes(random, random.Intn(4))
	}
	return l
}
