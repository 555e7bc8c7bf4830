package space

import (
	"math"
	"math/rand"
	"slices"
	"strings"
	"testing"

	"aedicule/api"
)

const (
	lastPage = api.MaxSpace - api.PageSize
	greatest = math.MaxUint32
	anyPerm  = -1
)

// model: a space, byte by byte: each byte of a page has its value and the page's perm under its address.
type model map[uint64]struct {
	value byte
	perm  uint8
}

// mapped: the model with one more page.
func (l model) mapped(addr uint64, perm uint8) model {
	for i := range uint64(256) {
		x := l[addr+i]
		x.value, x.perm = 0, perm
		l[addr+i] = x
	}
	return l
}

// fault: whether one of the n bytes from addr on is not there or lacks what is needed.
func (l model) fault(addr uint64, n int, needed uint8) bool {
	for i := range uint64(n) {
		if x, ok := l[addr+i]; !ok || x.perm&needed != needed {
			return true
		}
	}
	return false
}

// bytes: the n bytes from addr on.
func (l model) bytes(addr uint64, n int) string {
	b := make([]byte, n)
	for i := range b {
		b[i] = l[addr+uint64(i)].value
	}
	return string(b)
}

// put: s is put to addr on.
func (l model) put(addr uint64, s string) {
	for i := range len(s) {
		x := l[addr+uint64(i)]
		x.value = s[i]
		l[addr+uint64(i)] = x
	}
}

// copied: another model that has the same.
func (l model) copied() model {
	c := model{}
	for a, x := range l {
		c[a] = x
	}
	return c
}

// pages: the addresses of all pages, ascending.
func (l model) pages() []uint32 {
	var p []uint32
	for a := range l {
		if a%256 == 0 {
			p = append(p, uint32(a))
		}
	}
	slices.Sort(p)
	return p
}

// text: n bytes, none of them 0, others for each seed.
func text(n, seed int) string {
	b := make([]byte, n)
	for i := range b {
		b[i] = byte(1 + (seed+i*167+i*i/251)%255)
	}
	return string(b)
}

// is: that a call answered that error.
func is(t *testing.T, what string, got, want api.Errno) {
	t.Helper()
	if got != want {
		t.Fatalf("%s: %v; want %v", what, got, want)
	}
}

// same: that a call answered those bytes and that error.
func same(t *testing.T, what, s string, e api.Errno, wantS string, wantE api.Errno) {
	t.Helper()
	if s != wantS || e != wantE {
		t.Fatalf("%s: %.64q of %d bytes, %v; want %.64q of %d bytes, %v", what, s, len(s), e, wantS, len(wantS), wantE)
	}
}

// with: a space that has those pages, each with that perm and with bytes that are none 0, and its model.
func with(t *testing.T, perm uint8, pages ...uint32) (*Space, model) {
	t.Helper()
	m, l := New(), model{}
	for _, a := range pages {
		is(t, "Map", m.Map(a, perm), api.OK)
		is(t, "Set", m.Set(a, text(256, int(a))), api.OK)
		l.mapped(uint64(a), perm).put(uint64(a), text(256, int(a)))
	}
	return m, l
}

// holds: that the space has the model's pages, perms and bytes, and nothing else.
func holds(t *testing.T, what string, m *Space, l model) {
	t.Helper()
	pages := l.pages()
	if got := m.Pages(); !slices.Equal(got, pages) {
		t.Fatalf("%s: pages %v; want %v", what, got, pages)
	}
	for _, a := range pages {
		if p, ok := m.Perm(a); p != l[uint64(a)].perm || !ok {
			t.Fatalf("%s: perm of %d is %d, %v; want %d", what, a, p, ok, l[uint64(a)].perm)
		}
		if s, e := m.Look(a, 256); s != l.bytes(uint64(a), 256) || e != api.OK {
			t.Fatalf("%s: page %d is %q, %v; want %q", what, a, s, e, l.bytes(uint64(a), 256))
		}
	}
}

// P5.1, P5.2: the chapter's examples.
func TestExamples(t *testing.T) {
	m := New()
	is(t, "Map(0, PermR + PermW)", m.Map(0, api.PermR+api.PermW), api.OK)
	is(t, "Write(255, x)", m.Write(255, "x"), api.OK)
	s, e := m.Read(254, 2)
	same(t, "Read(254, 2)", s, e, "\x00x", api.OK)
	is(t, "Write(255, xy)", m.Write(255, "xy"), api.ErrFault)
	s, e = m.Fetch(0)
	same(t, "Fetch(0)", s, e, "", api.ErrFault)
	s, e = m.Read(256, 0)
	same(t, "Read(256, 0)", s, e, "", api.OK)
	is(t, "Map(256, 8)", m.Map(256, 8), api.ErrArg)
	is(t, "Map(1, 1)", m.Map(1, 1), api.ErrArg)
	is(t, "Map(0, 1)", m.Map(0, 1), api.ErrHave)
	holds(t, "behind all", m, func() model { l := model{}.mapped(0, 3); l.put(255, "x"); return l }())
}

// P5.1: New: no pages, and none shared by two spaces.
func TestNew(t *testing.T) {
	m, n := New(), New()
	if m == nil || len(m.Pages()) != 0 {
		t.Fatal("a new space has pages, or is none")
	}
	for _, a := range []uint32{0, 1, 255, 256, lastPage, api.MaxSpace - 1, api.MaxSpace, greatest} {
		if p, ok := m.Perm(a); p != 0 || ok {
			t.Errorf("Perm(%d) of a new space: %d, %v", a, p, ok)
		}
	}
	is(t, "Map", m.Map(0, 7), api.OK)
	holds(t, "another new space", n, model{})
}

// P5.1: Map: every perm at the first page, the last, and some between; bytes 0.
func TestMap(t *testing.T) {
	for perm := range 8 {
		for _, a := range []uint32{0, 256, 512, 1 << 16, lastPage - 256, lastPage} {
			m := New()
			is(t, "Map", m.Map(a, uint8(perm)), api.OK)
			holds(t, "a mapped page", m, model{}.mapped(uint64(a), uint8(perm)))
		}
	}
}

// P5.1: Map: what is no page's address, and perms that there are not; each ahead of a page that is mapped.
func TestMapArg(t *testing.T) {
	m, l := with(t, 5, 0, 256, lastPage)
	for _, a := range []uint32{1, 2, 4, 8, 16, 32, 64, 128, 255, 257, 511, lastPage + 1, api.MaxSpace - 1, api.MaxSpace, api.MaxSpace + 1, api.MaxSpace + 256, 1 << 31, greatest - 255, greatest} {
		for _, perm := range []uint8{0, 1, 5, 7, 8, 255} {
			is(t, "Map of no page", m.Map(a, perm), api.ErrArg)
		}
	}
	for _, a := range []uint32{0, 256, 512, lastPage} {
		for perm := 8; perm < 256; perm++ {
			is(t, "Map with no perm", m.Map(a, uint8(perm)), api.ErrArg)
		}
	}
	holds(t, "behind what was refused", m, l)
}

// P5.1: Map: a page that is mapped stays as it is.
func TestMapHave(t *testing.T) {
	m, l := with(t, 5, 0, 256, lastPage)
	for _, a := range []uint32{0, 256, lastPage} {
		for perm := range 8 {
			is(t, "Map of a mapped page", m.Map(a, uint8(perm)), api.ErrHave)
		}
	}
	holds(t, "behind what was refused", m, l)
}

// P5.1: Unmap: a page goes, the others stay; mapped again its bytes are 0 and its perm is the new one.
func TestUnmap(t *testing.T) {
	for _, a := range []uint32{0, 256, 512, lastPage} {
		m, l := with(t, 6, 0, 256, 512, lastPage)
		is(t, "Unmap", m.Unmap(a), api.OK)
		for i := range uint64(256) {
			delete(l, uint64(a)+i)
			if p, ok := m.Perm(a + uint32(i)); p != 0 || ok {
				t.Fatalf("Perm(%d) of an unmapped page: %d, %v", a+uint32(i), p, ok)
			}
		}
		holds(t, "behind Unmap", m, l)
		is(t, "Set", m.Set(a, "x"), api.ErrFault)
		is(t, "Unmap again", m.Unmap(a), api.ErrNone)
		is(t, "Map again", m.Map(a, 1), api.OK)
		holds(t, "mapped again", m, l.mapped(uint64(a), 1))
	}
}

// P5.1: Unmap: what is no page's address, and pages that are not mapped.
func TestUnmapNone(t *testing.T) {
	m, l := with(t, 7, 256, lastPage)
	for _, a := range []uint32{1, 255, 257, 511, lastPage + 1, api.MaxSpace - 1, api.MaxSpace, api.MaxSpace + 256, 1 << 31, greatest - 255, greatest} {
		is(t, "Unmap of no page", m.Unmap(a), api.ErrArg)
	}
	for _, a := range []uint32{0, 512, lastPage - 256} {
		is(t, "Unmap of a page not mapped", m.Unmap(a), api.ErrNone)
	}
	holds(t, "behind what was refused", m, l)
	is(t, "Unmap in a new space", New().Unmap(0), api.ErrNone)
}

// P5.1: Perm: at every address of a page, and beside it; also a perm of 0 is one.
func TestPerm(t *testing.T) {
	m := New()
	perms := map[uint32]uint8{0: 3, 512: 0, 768: 7, lastPage: 4}
	for a, p := range perms {
		is(t, "Map", m.Map(a, p), api.OK)
	}
	for a := range uint32(api.MaxSpace + 1024) {
		want, wantOK := perms[a/256*256]
		if p, ok := m.Perm(a); p != want || ok != wantOK {
			t.Fatalf("Perm(%d): %d, %v; want %d, %v", a, p, ok, want, wantOK)
		}
	}
	for _, a := range []uint32{1<<31 - 1, 1 << 31, greatest - 255, greatest} {
		if p, ok := m.Perm(a); p != 0 || ok {
			t.Errorf("Perm(%d): %d, %v; want none", a, p, ok)
		}
	}
}

// P5.1: Pages: ascending, in whatever order they were mapped and unmapped; all that there can be.
func TestPages(t *testing.T) {
	r := rand.New(rand.NewSource(1))
	for range 20 {
		m := New()
		var want []uint32
		for i, k := range r.Perm(api.MaxSpace / 256) {
			is(t, "Map", m.Map(uint32(k)*256, uint8(k%8)), api.OK)
			if i%3 == 0 {
				is(t, "Unmap", m.Unmap(uint32(k)*256), api.OK)
				continue
			}
			want = append(want, uint32(k)*256)
		}
		slices.Sort(want)
		if got := m.Pages(); !slices.Equal(got, want) {
			t.Fatalf("%d pages; want %d in ascending order", len(got), len(want))
		}
	}
}

// P5.1, R5: Pages: the list is new memory.
func TestPagesNew(t *testing.T) {
	m, l := with(t, 7, 0, 256)
	p := m.Pages()
	p[0], p[1] = 99, 98
	holds(t, "with a list changed", m, l)
}

// P5.1, P5.3: Copy: equal, and neither is changed with the other, by whatever changes it.
func TestCopy(t *testing.T) {
	changes := map[string]func(m *Space, l model){
		"Map": func(m *Space, l model) { is(t, "Map", m.Map(512, 2), api.OK); l.mapped(512, 2) },
		"Set": func(m *Space, l model) {
			is(t, "Set", m.Set(250, "changed by it"), api.OK)
			l.put(250, "changed by it")
		},
		"Write": func(m *Space, l model) {
			is(t, "Write", m.Write(lastPage+255, "\x00"), api.OK)
			l.put(lastPage+255, "\x00")
		},
		"Unmap": func(m *Space, l model) {
			is(t, "Unmap", m.Unmap(0), api.OK)
			for i := range uint64(256) {
				delete(l, i)
			}
		},
	}
	for what, change := range changes {
		m, l := with(t, 7, lastPage, 0, 256)
		c, k := m.Copy(), l.copied()
		holds(t, "a copy", c, k)
		change(c, k)
		holds(t, what+": the changed copy", c, k)
		holds(t, what+": the original of a changed copy", m, l)

		m, l = with(t, 7, lastPage, 0, 256)
		c, k = m.Copy(), l.copied()
		change(m, l)
		holds(t, what+": the changed original", m, l)
		holds(t, what+": the copy of a changed original", c, k)
		holds(t, what+": the copy's copy", c.Copy(), k)
	}
	holds(t, "the copy of a new space", New().Copy(), model{})
}

// P5.1: Copy: perms of all kinds go over.
func TestCopyPerms(t *testing.T) {
	m, l := New(), model{}
	for p := range uint8(8) {
		is(t, "Map", m.Map(uint32(p)*1024, p), api.OK)
		l.mapped(uint64(p)*1024, p)
	}
	holds(t, "a copy", m.Copy(), l)
}

// what each of the five ways to bytes needs, and how it is asked; a way that puts is asked with the text.
var ways = []struct {
	name   string
	needed uint8
	get    func(m *Space, addr uint32, n int) (string, api.Errno)
	put    func(m *Space, addr uint32, s string) api.Errno
}{
	{name: "Read", needed: api.PermR, get: (*Space).Read},
	{name: "Look", get: (*Space).Look},
	{name: "Write", needed: api.PermW, put: (*Space).Write},
	{name: "Set", put: (*Space).Set},
	{name: "Fetch", needed: api.PermX, get: func(m *Space, addr uint32, _ int) (string, api.Errno) { return m.Fetch(addr) }},
}

// all asks every way for the n bytes from addr on, and holds the answers, and what the space then has, against the model.
func all(t *testing.T, m *Space, l model, addr uint32, n int) {
	t.Helper()
	for i, w := range ways {
		size := n
		if w.name == "Fetch" {
			size = 8
		}
		want := api.OK
		if l.fault(uint64(addr), size, w.needed) {
			want = api.ErrFault
		}
		if w.put != nil {
			s := text(size, i+int(addr))
			is(t, w.name, w.put(m, addr, s), want)
			if want == api.OK {
				l.put(uint64(addr), s)
			}
			continue
		}
		s, e := w.get(m, addr, size)
		wantS := ""
		if want == api.OK {
			wantS = l.bytes(uint64(addr), size)
		}
		same(t, w.name, s, e, wantS, want)
	}
	holds(t, "behind every way", m, l)
}

// ranges: beginnings and lengths of ranges: empty, within a page, up to its end, over two and over three pages.
func ranges(page uint32, f func(addr uint32, n int)) {
	for _, from := range []uint32{0, 1, 7, 128, 247, 248, 249, 254, 255} {
		for _, n := range []int{0, 1, 2, 7, 8, 9, 127, 128, 129, 254, 255, 256, 257, 258, 511, 512, 513, 600, 767, 768, 769} {
			f(page+from, n)
		}
	}
}

// P5.2, P5.3: ranges of all kinds, in pages of every perm, with what comes in front of them and behind.
func TestRanges(t *testing.T) {
	for perm := range uint8(8) {
		for _, first := range []uint32{0, 256, 1 << 12, api.MaxSpace - 3*256} {
			m, l := with(t, perm, first, first+256, first+512)
			ranges(first, func(addr uint32, n int) { all(t, m, l, addr, n) })
			if first > 0 {
				ranges(first-256, func(addr uint32, n int) { all(t, m, l, addr, n) })
			}
			ranges(first+512, func(addr uint32, n int) { all(t, m, l, addr, n) })
		}
	}
}

// P5.2, P5.3: three pages, of which one is not there, or lacks one permission or all; wherever it stands.
func TestOneOfThree(t *testing.T) {
	for which := range uint32(3) {
		for _, perm := range []int{anyPerm, 0, 1, 2, 3, 4, 5, 6} {
			m, l := with(t, 7, 0, 256, 512, 768)
			is(t, "Unmap", m.Unmap(which*256), api.OK)
			for i := range uint64(256) {
				delete(l, uint64(which)*256+i)
			}
			if perm != anyPerm {
				is(t, "Map", m.Map(which*256, uint8(perm)), api.OK)
				l.mapped(uint64(which)*256, uint8(perm))
			}
			ranges(0, func(addr uint32, n int) { all(t, m, l, addr, n) })
			ranges(256, func(addr uint32, n int) { all(t, m, l, addr, n) })
		}
	}
}

// P5.2: each permission alone, for each way.
func TestPermissionAlone(t *testing.T) {
	want := map[string][8]api.Errno{
		"Read":  {50, 0, 50, 0, 50, 0, 50, 0},
		"Look":  {},
		"Write": {50, 50, 0, 0, 50, 50, 0, 0},
		"Set":   {},
		"Fetch": {50, 50, 50, 50, 0, 0, 0, 0},
	}
	for _, w := range ways {
		for perm := range uint8(8) {
			m := New()
			is(t, "Map", m.Map(256, perm), api.OK)
			var e api.Errno
			if w.put != nil {
				e = w.put(m, 300, "bytes")
			} else {
				_, e = w.get(m, 300, 5)
			}
			if e != want[w.name][perm] {
				t.Errorf("%s in a page of perm %d: %v; want %v", w.name, perm, e, want[w.name][perm])
			}
		}
	}
}

// P5.2: an empty range: anywhere, with pages and without, whatever they permit.
func TestEmpty(t *testing.T) {
	none, _ := with(t, 0)
	shut, l := with(t, 0, 0, lastPage)
	for _, m := range []*Space{none, shut} {
		for _, a := range []uint32{0, 1, 255, 256, 257, lastPage - 1, lastPage, api.MaxSpace - 1, api.MaxSpace, api.MaxSpace + 1, 1 << 31, greatest - 255, greatest} {
			for _, w := range ways {
				if w.put != nil {
					is(t, w.name+" of nothing", w.put(m, a, ""), api.OK)
				} else if w.name != "Fetch" {
					s, e := w.get(m, a, 0)
					same(t, w.name+" of nothing", s, e, "", api.OK)
				}
			}
		}
	}
	holds(t, "no pages", none, model{})
	holds(t, "pages that permit nothing", shut, l)
}

// P5.2: n: negative, or greater than MaxSpace, is ErrArg wherever it begins.
func TestCount(t *testing.T) {
	full := New()
	for a := uint32(0); a < api.MaxSpace; a += 256 {
		is(t, "Map", full.Map(a, api.PermR), api.OK)
	}
	is(t, "Set", full.Set(0, text(api.MaxSpace, 3)), api.OK)
	for _, w := range ways[:2] {
		for _, m := range []*Space{New(), full} {
			for _, a := range []uint32{0, 1, 256, lastPage, api.MaxSpace, greatest} {
				for _, n := range []int{-1, -2, -256, math.MinInt32, math.MinInt64, api.MaxSpace + 1, api.MaxSpace + 256, math.MaxInt32, math.MaxInt64} {
					s, e := w.get(m, a, n)
					same(t, w.name+" of a wrong n", s, e, "", api.ErrArg)
				}
			}
		}
		s, e := w.get(full, 0, api.MaxSpace)
		same(t, w.name+" of all", s, e, text(api.MaxSpace, 3), api.OK)
		s, e = w.get(full, 0, api.MaxSpace-1)
		same(t, w.name+" of all but one", s, e, text(api.MaxSpace, 3)[:api.MaxSpace-1], api.OK)
		s, e = w.get(full, 1, api.MaxSpace)
		same(t, w.name+" of one beyond all", s, e, "", api.ErrFault)
		s, e = w.get(New(), 0, api.MaxSpace)
		same(t, w.name+" of all, with no page", s, e, "", api.ErrFault)
	}
}

// P5.2: beyond MaxSpace there are no bytes, and addresses do not wrap around to the first page.
func TestBeyond(t *testing.T) {
	m, l := with(t, 7, 0, 256, lastPage-256, lastPage)
	for _, a := range []uint32{api.MaxSpace - 257, lastPage, api.MaxSpace - 9, api.MaxSpace - 8, api.MaxSpace - 7, api.MaxSpace - 1, api.MaxSpace, api.MaxSpace + 1, api.MaxSpace + 256, 1 << 24, 1<<31 - 1, 1 << 31, greatest - 256, greatest - 255, greatest - 8, greatest - 7, greatest} {
		for _, n := range []int{0, 1, 2, 7, 8, 9, 10, 255, 256, 257, 258, 512, 513} {
			all(t, m, l, a, n)
		}
	}
}

// P5.2: Write and Set of more bytes than there can be: not an argument that is wrong, but bytes in no page.
func TestPutTooMuch(t *testing.T) {
	m := New()
	for a := uint32(0); a < api.MaxSpace; a += 256 {
		is(t, "Map", m.Map(a, 7), api.OK)
	}
	long := strings.Repeat("x", 2*api.MaxSpace)
	for _, put := range []func(uint32, string) api.Errno{m.Write, m.Set} {
		is(t, "of one beyond all", put(0, long[:api.MaxSpace+1]), api.ErrFault)
		is(t, "of twice all", put(0, long), api.ErrFault)
		is(t, "of all from the second byte on", put(1, long[:api.MaxSpace]), api.ErrFault)
		s, e := m.Look(0, api.MaxSpace)
		same(t, "behind what was refused", s, e, strings.Repeat("\x00", api.MaxSpace), api.OK)
	}
	for i, put := range []func(uint32, string) api.Errno{m.Write, m.Set} {
		is(t, "of all", put(0, text(api.MaxSpace, i)), api.OK)
		s, e := m.Look(0, api.MaxSpace)
		same(t, "behind a put of all", s, e, text(api.MaxSpace, i), api.OK)
	}
}

// P5.2: Fetch: 8 bytes, at the end of a page and over two.
func TestFetch(t *testing.T) {
	m, l := with(t, api.PermX, 0, 256, lastPage)
	for a := range uint32(512 + 16) {
		want, wantE := "", api.ErrFault
		if a <= 512-8 {
			want, wantE = l.bytes(uint64(a), 8), api.OK
		}
		s, e := m.Fetch(a)
		same(t, "Fetch", s, e, want, wantE)
	}
	for i := range uint32(16) {
		a := uint32(api.MaxSpace - 16 + i)
		want, wantE := "", api.ErrFault
		if i <= 8 {
			want, wantE = l.bytes(uint64(a), 8), api.OK
		}
		s, e := m.Fetch(a)
		same(t, "Fetch at the last page's end", s, e, want, wantE)
	}
}

// P5.1 to P5.3: calls of all kinds in any order, on a space and its copies, each held against its model.
func TestAnyOrder(t *testing.T) {
	r := rand.New(rand.NewSource(2))
	pages := []uint32{0, 256, 512, 768, 1024, lastPage - 256, lastPage, api.MaxSpace}
	spaces, models := []*Space{New()}, []model{{}}
	for range 6000 {
		i := r.Intn(len(spaces))
		m, l := spaces[i], models[i]
		a, perm := pages[r.Intn(len(pages))], uint8(r.Intn(9))
		_, have := l[uint64(a)]
		switch k := r.Intn(12); {
		case k < 3:
			want := api.OK
			if a == api.MaxSpace || perm > 7 {
				want = api.ErrArg
			} else if have {
				want = api.ErrHave
			} else {
				l.mapped(uint64(a), perm)
			}
			is(t, "Map", m.Map(a, perm), want)
		case k == 3:
			want := api.ErrNone
			if a == api.MaxSpace {
				want = api.ErrArg
			} else if have {
				want = api.OK
				for b := range uint64(256) {
					delete(l, uint64(a)+b)
				}
			}
			is(t, "Unmap", m.Unmap(a), want)
		case k == 4:
			spaces, models = append(spaces, m.Copy()), append(models, l.copied())
			if len(spaces) > 4 {
				spaces, models = spaces[1:], models[1:]
			}
		default:
			all(t, m, l, a+uint32(r.Intn(256)), r.Intn(700))
		}
	}
	for i := range spaces {
		holds(t, "in the end", spaces[i], models[i])
	}
}

// P5.1, P5.2, R3: a space that is nil.
func TestNil(t *testing.T) {
	var m *Space
	for _, a := range []uint32{0, 1, 256, api.MaxSpace, greatest} {
		for _, perm := range []uint8{0, 7, 8} {
			is(t, "Map", m.Map(a, perm), api.ErrNil)
		}
		is(t, "Unmap", m.Unmap(a), api.ErrNil)
		if p, ok := m.Perm(a); p != 0 || ok {
			t.Errorf("Perm(%d): %d, %v", a, p, ok)
		}
		for _, w := range ways {
			for _, n := range []int{-1, 0, 1, 8, api.MaxSpace, api.MaxSpace + 1} {
				if w.put != nil {
					is(t, w.name, w.put(m, a, strings.Repeat("x", max(n, 0))), api.ErrNil)
					continue
				}
				s, e := w.get(m, a, n)
				same(t, w.name, s, e, "", api.ErrNil)
			}
		}
	}
	if l := m.Pages(); len(l) != 0 {
		t.Errorf("Pages: %v", l)
	}
	if m.Copy() != nil {
		t.Error("Copy is not nil")
	}
}
