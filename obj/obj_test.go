package obj

import (
	"fmt"
	"reflect"
	"slices"
	"strings"
	"testing"
	"unsafe"

	"aedicule/api"
)

// data: a symbol of data that is valid, of n bytes, with those relocations.
func data(n int, rels ...api.Rel) api.Sym {
	return api.Sym{Name: "d", Kind: api.SymData, Size: uint32(n), Bytes: strings.Repeat("b", n), Rels: rels}
}

// code: a symbol of code that is valid, with that name.
func code(name string) api.Sym {
	return api.Sym{Name: name, Bind: api.BindStrong, Kind: api.SymCode, Size: 8, Bytes: "\x28\x00\x00\x00\x00\x01\x00\x00"}
}

// noting: a symbol with those notes.
func noting(notes ...api.Note) api.Sym {
	s := code("s")
	s.Notes = notes
	return s
}

// object: an object with those symbols.
func object(syms ...api.Sym) api.Object { return api.Object{Name: "o", Syms: syms} }

// objectOf: an object of code with those names.
func objectOf(names ...string) api.Object {
	o := object()
	for _, name := range names {
		o.Syms = append(o.Syms, code(name))
	}
	return o
}

// numbered: n names, all of them others.
func numbered(n int) []string {
	var l []string
	for i := range n {
		l = append(l, fmt.Sprintf("s%d", i))
	}
	return l
}

func word(off uint32) api.Rel { return api.Rel{Off: off, Kind: api.RelWord, Name: "r"} }
func half(off uint32) api.Rel { return api.Rel{Off: off, Kind: api.RelHalf, Name: "r"} }

// symIs: whether the symbol is valid to Sym, and to an object that has it: alone, at its beginning, in its middle, at its end.
func symIs(t *testing.T, what string, valid bool, s api.Sym) {
	t.Helper()
	is(t, what+": Sym", valid, Sym(s))
	a, b := code("other.a"), code("other.b")
	for i, o := range []api.Object{object(s), object(s, a, b), object(a, s, b), object(a, b, s)} {
		is(t, fmt.Sprintf("%s: Check of object %d", what, i), valid, Check(o))
		at, ok := Find(o, s.Name)
		if wantAt := []int{0, 0, 1, 2}[i]; valid && at != wantAt || !valid && at != 0 || ok != valid {
			t.Fatalf("%s: Find in object %d: %d, %v", what, i, at, ok)
		}
		var want []string
		if valid {
			want = []string{"other.a", "other.b", s.Name}
			if i == 0 {
				want = want[2:]
			}
			slices.Sort(want)
		}
		if got := Names(o); !slices.Equal(got, want) {
			t.Fatalf("%s: Names of object %d: %.200q; want %.200q", what, i, got, want)
		}
	}
}

// nameIs: whether the name may be that of a symbol, of one to which a relocation refers, and of an object.
func nameIs(t *testing.T, name string, valid bool) {
	t.Helper()
	what := fmt.Sprintf("%.50q of %d bytes", name, len(name))
	symIs(t, what, valid, code(name))
	r := word(0)
	r.Name = name
	symIs(t, what+" in a relocation", valid, data(8, r))
	symIs(t, what+" in the second relocation", valid, data(8, word(0), api.Rel{Off: 4, Kind: api.RelHalf, Name: name}))
	for _, o := range []api.Object{{Name: name}, {Name: name, Syms: []api.Sym{code("s")}}} {
		is(t, what+" of an object", valid, Check(o))
		_, ok := Find(o, "s")
		if ok != (valid && len(o.Syms) > 0) {
			t.Fatalf("%s of an object: Find: %v", what, ok)
		}
	}
}

// P8.1, P8.2: the chapter's example.
func TestExample(t *testing.T) {
	s := api.Sym{Name: "main", Bind: api.BindStrong, Kind: api.SymCode, Size: 8, Bytes: "12345678"}
	for _, c := range []struct {
		rels  []api.Rel
		valid bool
	}{
		{nil, true},
		{[]api.Rel{word(4)}, true},
		{[]api.Rel{word(5)}, false},
		{[]api.Rel{word(4), half(6)}, false},
		{[]api.Rel{word(4), word(6)}, false},
		{[]api.Rel{word(0), word(4)}, true},
	} {
		s.Rels = c.rels
		symIs(t, fmt.Sprint("main with ", c.rels), c.valid, s)
	}
}

// P8.1: names by how many bytes they have; also such as a byte or two would count as few.
func TestNameLengths(t *testing.T) {
	for _, n := range []int{0, 1, 2, 31, 32, 33, 34, 64, 255, 256, 257, 288, 289, 1<<16 + 1, 1 << 20} {
		for _, c := range []string{"a", "_"} {
			nameIs(t, strings.Repeat(c, n), n == 1 || n == 2 || n == 31 || n == 32)
		}
	}
}

// P8.1: each byte alone, at the beginning of a name, in its middle and at its end.
func TestNameBytes(t *testing.T) {
	for c := range 256 {
		b := string([]byte{byte(c)})
		valid := strings.Contains("abcdefghijklmnopqrstuvwxyz0123456789._", b)
		for _, name := range []string{b, b + "ab", "a" + b + "b", "ab" + b, b + strings.Repeat("z", 31), strings.Repeat("z", 31) + b, b + b} {
			nameIs(t, name, valid)
		}
	}
}

// P8.1: names of several bytes that stand for one letter, and some that are plain.
func TestNames(t *testing.T) {
	for _, name := range []string{"ä", "é1", "\u212a", "\u0131", "\uff41", "main\x00", " main", "main ", "ma in", "main\n", "Main", "maiN", "a-b", "a/b", "a,b", "a:b", "a`b", "a{b", "a@b", "a[b"} {
		nameIs(t, name, false)
	}
	for _, name := range []string{"main", "heap_get", "0", "9", "_", ".", "..", "._", "0.9", "a.b.c", "azaz09._"} {
		nameIs(t, name, true)
	}
}

// P8.1: each number as a Bind, and as a Kind.
func TestBindAndKind(t *testing.T) {
	for n := range 256 {
		s := code("s")
		s.Bind = uint8(n)
		symIs(t, fmt.Sprint("bind ", n), n <= 2, s)
		s = code("s")
		s.Kind = uint8(n)
		symIs(t, fmt.Sprint("kind ", n), 1 <= n && n <= 3, s)
	}
	for _, bind := range []uint8{api.BindLocal, api.BindStrong, api.BindWeak} {
		for _, kind := range []uint8{api.SymCode, api.SymData, api.SymConst} {
			s := code("s")
			s.Bind, s.Kind = bind, kind
			symIs(t, fmt.Sprint("bind ", bind, ", kind ", kind), true, s)
		}
	}
}

// sized: a symbol of that kind and size, with n bytes.
func sized(kind uint8, size uint32, n int) api.Sym {
	return api.Sym{Name: "s", Bind: api.BindWeak, Kind: kind, Size: size, Bytes: strings.Repeat("\x00", n)}
}

// P8.1: the sizes at the bounds, with no byte, with fewer bytes than the size, as many, and more.
func TestSize(t *testing.T) {
	sizes := []uint32{0, 1, 2, 8, 4096, 8191, 8192, 8193, 8200, 1 << 16, 1<<16 + 8, 1 << 31, most - 7, most}
	for _, size := range sizes {
		for _, n := range []int{0, 1, 8, 4096, 8191, 8192, 8193, 8200, 1 << 16, 1<<16 + 8} {
			for _, kind := range []uint8{api.SymData, api.SymConst} {
				valid := size >= 1 && size <= 8192 && n <= int(size)
				symIs(t, fmt.Sprintf("kind %d, size %d, %d bytes", kind, size, n), valid, sized(kind, size, n))
			}
			valid := size == 8 && n == 8 || size == 4096 && n == 4096 || size == 8192 && n == 8192
			symIs(t, fmt.Sprintf("code, size %d, %d bytes", size, n), valid, sized(api.SymCode, size, n))
		}
	}
}

// P8.1: all small sizes with all small numbers of bytes.
func TestSmallSizes(t *testing.T) {
	for size := range 27 {
		for n := range 29 {
			for _, kind := range []uint8{api.SymData, api.SymConst} {
				symIs(t, fmt.Sprintf("kind %d, size %d, %d bytes", kind, size, n), size > 0 && n <= size, sized(kind, uint32(size), n))
			}
			valid := size == n && (size == 8 || size == 16 || size == 24)
			symIs(t, fmt.Sprintf("code, size %d, %d bytes", size, n), valid, sized(api.SymCode, uint32(size), n))
		}
	}
}

// P8.1: code of all sizes that has just so many bytes, and a byte less.
func TestCodeSizes(t *testing.T) {
	for n := range 8194 {
		is(t, fmt.Sprint("code of ", n), n > 0 && n <= 8192 && n&7 == 0, Sym(sized(api.SymCode, uint32(n), n)))
		is(t, fmt.Sprint("code of ", n, " with a byte less"), false, Sym(sized(api.SymCode, uint32(n+1), n)))
	}
}

// P8.1: as many relocations as may be, and one more, side by side and apart, of each kind.
func TestManyRels(t *testing.T) {
	for _, n := range []int{0, 1, 2, 1023, 1024, 1025, 2048} {
		for _, c := range []struct {
			rel  func(uint32) api.Rel
			step int
		}{{half, 2}, {half, 3}, {word, 4}} {
			s := data(8192)
			for i := range n {
				s.Rels = append(s.Rels, c.rel(uint32(i*c.step)))
			}
			symIs(t, fmt.Sprint(n, " relocations, each ", c.step), n <= 1024, s)
		}
	}
}

// P8.1: each number as a relocation's kind, where there is room for any.
func TestRelKinds(t *testing.T) {
	for n := range 256 {
		r := word(4)
		r.Kind = uint8(n)
		symIs(t, fmt.Sprint("relocation of kind ", n), n == 1 || n == 2, data(64, r))
		symIs(t, fmt.Sprint("a second relocation of kind ", n), n == 1 || n == 2, data(64, word(0), r))
	}
}

// P8.1: a relocation at each offset of short symbols, and at great ones: it lies within the bytes, whatever the size is.
func TestRelWithinBytes(t *testing.T) {
	for n := range 12 {
		for off := range 14 {
			s := data(n, word(uint32(off)))
			s.Size = 8192
			symIs(t, fmt.Sprintf("a word at %d of %d bytes", off, n), off+4 <= n, s)
			s.Rels[0] = half(uint32(off))
			symIs(t, fmt.Sprintf("a half at %d of %d bytes", off, n), off+2 <= n, s)
		}
	}
	for _, n := range []int{0, 2, 4, 6, 8, 8192} {
		for back := range 9 {
			for _, off := range []uint32{most - uint32(back), 1<<31 - uint32(back), 1<<31 + uint32(back), 1<<16 + uint32(back)} {
				s := data(n, word(off))
				s.Size = 8192
				symIs(t, fmt.Sprintf("a word at %d of %d bytes", off, n), false, s)
				s.Rels[0] = half(off)
				symIs(t, fmt.Sprintf("a half at %d of %d bytes", off, n), false, s)
			}
		}
	}
	symIs(t, "a word that ends with 8192 bytes", true, data(8192, word(8188)))
	symIs(t, "a word that ends behind 8192 bytes", false, data(8192, word(8189)))
	symIs(t, "a half that ends with 8192 bytes", true, data(8192, half(8190)))
	symIs(t, "a half that ends behind 8192 bytes", false, data(8192, half(8191)))
}

// P8.1: two relocations, at each two offsets: side by side, apart, one within the other, at the same one, in descending order.
func TestTwoRels(t *testing.T) {
	sizes := map[uint8]uint32{api.RelWord: 4, api.RelHalf: 2}
	for first := range uint32(12) {
		for second := range uint32(12) {
			for _, k := range [][2]uint8{{1, 1}, {1, 2}, {2, 1}, {2, 2}} {
				a, b := word(first), word(second)
				a.Kind, b.Kind = k[0], k[1]
				what := fmt.Sprintf("kinds %v at %d and %d", k, first, second)
				symIs(t, what, second >= first+sizes[k[0]], data(16, a, b))
				symIs(t, what+", behind one more", second >= first+sizes[k[0]] && first >= 4, data(16, word(0), a, b))
			}
		}
	}
}

// P8.1: any Add, in each kind of relocations.
func TestAdd(t *testing.T) {
	for _, add := range []uint32{0, 1, 65535, 65536, 1 << 31, most} {
		a, b := word(0), half(4)
		a.Add, b.Add = add, add
		symIs(t, fmt.Sprint("add ", add), true, data(6, a, b))
	}
}

// noteIs: whether the note is valid to Note, and to a symbol that has it: alone, and among others.
func noteIs(t *testing.T, n api.Note, valid bool) {
	t.Helper()
	what := fmt.Sprint("note ", n)
	is(t, what, valid, Note(n))
	a, b := api.Note{Kind: api.NoteConsole}, api.Note{Kind: api.NotePort, N: 7}
	for _, s := range []api.Sym{noting(n), noting(n, a, b), noting(a, n, b), noting(a, b, n), noting(n, n)} {
		symIs(t, what, valid, s)
	}
}

// P8.1: notes with their numbers at each of their bounds, and one beyond.
func TestNotes(t *testing.T) {
	for _, c := range []struct {
		kind  uint8
		n, m  uint32
		valid bool
	}{
		{api.NotePages, 0, 0, true}, {api.NotePages, 1, 0, true}, {api.NotePages, 1023, 0, true}, {api.NotePages, 1024, 0, true},
		{api.NotePages, 1025, 0, false}, {api.NotePages, most, 0, false}, {api.NotePages, 0, 1, false}, {api.NotePages, 1024, 1, false}, {api.NotePages, 1, most, false},
		{api.NoteExtent, 0, 1, true}, {api.NoteExtent, 15, 1, true}, {api.NoteExtent, 0, 1024, true}, {api.NoteExtent, 15, 1024, true}, {api.NoteExtent, 7, 2, true},
		{api.NoteExtent, 16, 1, false}, {api.NoteExtent, 0, 0, false}, {api.NoteExtent, 15, 0, false}, {api.NoteExtent, 0, 1025, false}, {api.NoteExtent, 15, 1025, false},
		{api.NoteExtent, 16, 1024, false}, {api.NoteExtent, most, 1, false}, {api.NoteExtent, 1, most, false},
		{api.NotePort, 1, 0, true}, {api.NotePort, 2, 0, true}, {api.NotePort, 65534, 0, true}, {api.NotePort, 65535, 0, true},
		{api.NotePort, 0, 0, false}, {api.NotePort, 65536, 0, false}, {api.NotePort, 65537, 0, false}, {api.NotePort, most, 0, false}, {api.NotePort, 1, 1, false}, {api.NotePort, 65535, most, false},
		{api.NoteConsole, 0, 0, true}, {api.NoteConsole, 1, 0, false}, {api.NoteConsole, 0, 1, false}, {api.NoteConsole, 1, 1, false}, {api.NoteConsole, most, 0, false}, {api.NoteConsole, 0, most, false},
	} {
		noteIs(t, api.Note{Kind: c.kind, N: c.n, M: c.m}, c.valid)
	}
}

// P8.1: each number as a note's kind, with numbers that some kind may have.
func TestNoteKinds(t *testing.T) {
	for kind := range 256 {
		for _, n := range []uint32{0, 1, 15, 16, 1024, 1025, 65535, 65536, most} {
			for _, m := range []uint32{0, 1, 1024, 1025, most} {
				note := api.Note{Kind: uint8(kind), N: n, M: m}
				is(t, fmt.Sprint("note ", note), validNote(note), Note(note))
			}
		}
		if kind == 0 || kind > 4 {
			noteIs(t, api.Note{Kind: uint8(kind)}, false)
			noteIs(t, api.Note{Kind: uint8(kind), N: 1}, false)
			noteIs(t, api.Note{Kind: uint8(kind), N: 1, M: 1}, false)
		}
	}
}

// P8.1: as many notes as may be, and one more; the same one may stand there often.
func TestManyNotes(t *testing.T) {
	for n := range 300 {
		same, others := code("s"), code("s")
		for i := range n {
			same.Notes = append(same.Notes, api.Note{Kind: api.NoteConsole})
			others.Notes = append(others.Notes, api.Note{Kind: api.NotePort, N: uint32(n - i)})
		}
		symIs(t, fmt.Sprint(n, " notes"), n <= 8, same)
		symIs(t, fmt.Sprint(n, " different notes"), n <= 8, others)
	}
}

// P8.1, P8.2: objects by how many symbols they have; each symbol is found.
func TestManySyms(t *testing.T) {
	for _, n := range []int{0, 1, 2, 63, 64, 65, 66, 128, 256, 257, 320, 321} {
		o := objectOf(numbered(n)...)
		what := fmt.Sprint(n, " symbols")
		is(t, what, n <= 64, Check(o))
		for i, s := range o.Syms {
			at, ok := Find(o, s.Name)
			if wantOk := n <= 64; ok != wantOk || ok && at != i || !ok && at != 0 {
				t.Fatalf("%s: Find of symbol %d: %d, %v", what, i, at, ok)
			}
		}
		listed(t, o)
	}
}

// P8.1, P8.2: two symbols with one name, at each two places of an object, whatever else they are.
func TestSameName(t *testing.T) {
	for _, n := range []int{2, 3, 7, 64} {
		for a := range n {
			for b := range a {
				o := objectOf(numbered(n)...)
				twin := data(b)
				twin.Name, twin.Size = o.Syms[b].Name, 100
				o.Syms[a] = twin
				what := fmt.Sprintf("symbols %d and %d of %d with one name", b, a, n)
				is(t, what, false, Check(o))
				if at, ok := Find(o, "s0"); at != 0 || ok {
					t.Fatalf("%s: Find: %d, %v", what, at, ok)
				}
				if l := Names(o); len(l) != 0 {
					t.Fatalf("%s: Names: %q", what, l)
				}
			}
		}
	}
}

// P8.1: names that begin alike, or that are the object's own or a relocation's, are no same names.
func TestOtherNames(t *testing.T) {
	long := strings.Repeat("n", 31)
	o := objectOf("a", "aa", "a.", "a_", "a0", long, long+"a", long+"b", "o")
	o.Syms[0].Rels = []api.Rel{{Kind: api.RelWord, Name: "aa"}, {Off: 4, Kind: api.RelWord, Name: "a"}}
	is(t, "names that begin alike", true, Check(o))
	agrees(t, o)
}

// faults: symbols of the name s that are not valid, one for each thing that may be wrong.
func faults() []api.Sym {
	l := make([]api.Sym, 12)
	for i := range l {
		l[i] = code("s")
	}
	l[0].Name = ""
	l[1].Name = "S"
	l[2].Bind = 3
	l[3].Kind = 0
	l[4].Size = 0
	l[5].Size, l[5].Kind = 7, api.SymData
	l[6].Size, l[6].Kind = 8193, api.SymConst
	l[7].Bytes = "1234567"
	l[8].Rels = []api.Rel{word(5)}
	l[9].Rels = make([]api.Rel, 1)
	l[10].Notes = make([]api.Note, 1)
	l[11].Notes = []api.Note{{Kind: api.NotePort}}
	return append(l, api.Sym{})
}

// P8.1, P8.2: a symbol that is not valid, at each place among others that are.
func TestOneFault(t *testing.T) {
	for i, s := range faults() {
		is(t, fmt.Sprint("fault ", i), false, Sym(s))
		for at := range 64 {
			o := objectOf(numbered(64)...)
			o.Syms[at] = s
			what := fmt.Sprintf("fault %d in symbol %d", i, at)
			is(t, what, false, Check(o))
			for _, name := range []string{"s0", "s31", "s63", "s"} {
				if n, ok := Find(o, name); n != 0 || ok {
					t.Fatalf("%s: Find of %s: %d, %v", what, name, n, ok)
				}
			}
			if l := Names(objectOf("b"), o, objectOf("a")); !slices.Equal(l, []string{"a", "b"}) {
				t.Fatalf("%s: Names: %q", what, l)
			}
		}
	}
}

// P8.2: Find of the first, a middle and the last symbol, and of names that none has.
func TestFind(t *testing.T) {
	o := objectOf("main", "a", "z", "a.b", "o1")
	o.Syms[1].Bind, o.Syms[2].Bind = api.BindLocal, api.BindWeak
	o.Syms[1].Rels = []api.Rel{{Kind: api.RelHalf, Name: "r"}}
	o.Syms[3].Kind, o.Syms[4].Kind = api.SymData, api.SymConst
	for i, name := range []string{"main", "a", "z", "a.b", "o1"} {
		if at, ok := Find(o, name); at != i || !ok {
			t.Errorf("Find of %s: %d, %v", name, at, ok)
		}
	}
	for _, name := range []string{"", "b", "mai", "mainn", "Main", "main ", "r", "o", "a.", "a.bc", "\x00", strings.Repeat("a", 33), strings.Repeat("main", 1<<16)} {
		if at, ok := Find(o, name); at != 0 || ok {
			t.Errorf("Find of %.40q: %d, %v", name, at, ok)
		}
	}
	if at, ok := Find(object(), "main"); at != 0 || ok {
		t.Errorf("Find in no symbols: %d, %v", at, ok)
	}
}

// P8.2: a name that is none is not found, even if a symbol has it.
func TestFindOfNoName(t *testing.T) {
	for _, name := range []string{"", "Main", strings.Repeat("a", 33)} {
		for _, o := range []api.Object{objectOf(name), objectOf("a", name), {}, {Syms: []api.Sym{code(name)}}, {Syms: make([]api.Sym, 1)}} {
			if at, ok := Find(o, name); at != 0 || ok {
				t.Errorf("Find of %q: %d, %v", name, at, ok)
			}
		}
	}
}

// P8.2: an object whose name is none, or with too many symbols, has nothing that is found or listed.
func TestNotValid(t *testing.T) {
	for _, o := range []api.Object{{Syms: []api.Sym{code("a"), code("b")}}, {Name: "O", Syms: []api.Sym{code("a"), code("b")}}, objectOf(append(numbered(64), "a", "b")...)} {
		for _, name := range []string{"a", "b"} {
			if at, ok := Find(o, name); at != 0 || ok {
				t.Errorf("Find of %s: %d, %v", name, at, ok)
			}
		}
		if l := Names(o, o); len(l) != 0 {
			t.Errorf("Names: %q", l)
		}
	}
}

// P8.2: names in ascending order of bytes, each once, of objects of every number.
func TestNamesOf(t *testing.T) {
	long := strings.Repeat("z", 32)
	for _, c := range []struct {
		l    []api.Object
		want []string
	}{
		{nil, nil},
		{[]api.Object{object()}, nil},
		{[]api.Object{objectOf("a")}, []string{"a"}},
		{[]api.Object{objectOf("b", "a")}, []string{"a", "b"}},
		{[]api.Object{objectOf("b"), objectOf("a")}, []string{"a", "b"}},
		{[]api.Object{objectOf("b", "a"), objectOf("a", "c"), objectOf("c", "b")}, []string{"a", "b", "c"}},
		{[]api.Object{objectOf("a"), objectOf("a"), objectOf("a")}, []string{"a"}},
		{[]api.Object{objectOf("z", long, "a", "aa", "a_", "a0", "a.", "_", "9", "0", ".", "a9", "..", "._", "ab", "b")}, []string{".", "..", "._", "0", "9", "_", "a", "a.", "a0", "a9", "a_", "aa", "ab", "b", "z", long}},
		{[]api.Object{objectOf("a"), {}, objectOf("b")}, []string{"a", "b"}},
		{[]api.Object{objectOf("a"), objectOf("c", "c"), objectOf("b")}, []string{"a", "b"}},
		{[]api.Object{objectOf("c", ""), objectOf("b")}, []string{"b"}},
		{[]api.Object{objectOf("b"), objectOf("c", "C")}, []string{"b"}},
		{[]api.Object{objectOf("a", "a"), objectOf("a")}, []string{"a"}},
	} {
		if got := Names(c.l...); !slices.Equal(got, c.want) {
			t.Errorf("Names of %d objects: %q; want %q", len(c.l), got, c.want)
		}
		listed(t, c.l...)
	}
}

// P8.2: more objects than can be linked, and symbols of each bind and each kind.
func TestNamesOfMany(t *testing.T) {
	var l []api.Object
	var want []string
	for i := range 100 {
		s := data(3)
		s.Name, s.Bind, s.Kind = fmt.Sprintf("n%02d", 99-i), uint8(i%3), uint8(2+i/3%2)
		l = append(l, object(s, code("all")))
		want = append(want, fmt.Sprintf("n%02d", i))
	}
	if got := Names(l...); !slices.Equal(got, append([]string{"all"}, want...)) {
		t.Errorf("Names: %q", got)
	}
}

// P8.3: in objects that Check takes each symbol is found by its name, and no byte belongs to two relocations, or to one and is not there. The objects are not chosen by the model: each two relocations at each places.
func TestConsequence(t *testing.T) {
	taken := 0
	for n := range 10 {
		for a := range uint32(9) {
			for b := range uint32(9) {
				for k := range uint8(9) {
					s := data(n, api.Rel{Off: a, Kind: k / 3, Name: "r"}, api.Rel{Off: b, Kind: k % 3, Name: "r"})
					s.Size = 10
					o := object(code("c"), s, code("e"))
					if Check(o) != api.OK {
						continue
					}
					taken++
					for i, s := range o.Syms {
						if at, ok := Find(o, s.Name); at != i || !ok {
							t.Fatalf("Find of symbol %d: %d, %v", i, at, ok)
						}
						apart(t, s)
					}
				}
			}
		}
	}
	if taken < 100 {
		t.Errorf("%d objects were valid: too few", taken)
	}
}

// apart: that the symbol's relocations lie within its bytes, and none of these belongs to two.
func apart(t *testing.T, s api.Sym) {
	t.Helper()
	count := make([]int, len(s.Bytes))
	for _, r := range s.Rels {
		size := relSizes[r.Kind]
		if size == 0 {
			t.Fatalf("a relocation of kind %d is valid", r.Kind)
		}
		for i := range size {
			at := int64(r.Off) + i
			if at >= int64(len(count)) {
				t.Fatalf("%v of %d bytes is valid", s.Rels, len(count))
			}
			count[at]++
			if count[at] > 1 {
				t.Fatalf("%v is valid", s.Rels)
			}
		}
	}
}

// P8.1, P8.2: lists that are nil and lists that are empty are the same (R4), and what is zero is not valid.
func TestNil(t *testing.T) {
	none, empty := code("s"), code("s")
	none.Rels, none.Notes = nil, nil
	empty.Rels, empty.Notes = []api.Rel{}, []api.Note{}
	symIs(t, "nil lists", true, none)
	symIs(t, "empty lists", true, empty)
	is(t, "nil symbols", true, Check(api.Object{Name: "o", Syms: nil}))
	is(t, "empty symbols", true, Check(api.Object{Name: "o", Syms: []api.Sym{}}))
	is(t, "an object of nothing", false, Check(api.Object{}))
	is(t, "a symbol of nothing", false, Sym(api.Sym{}))
	is(t, "a note of nothing", false, Note(api.Note{}))
	for _, l := range [][]api.Object{nil, {}, {{}}, {{}, {}}, {{Name: "o"}}} {
		if got := Names(l...); len(got) != 0 {
			t.Errorf("Names of nothing: %q", got)
		}
	}
}

// roomy: the list, with room behind it in which something stands.
func roomy[T any](l []T) (list, all []T) {
	all = append(slices.Clone(l), l...)
	return all[:len(l)], all
}

// P8.1, P8.2: what is passed is as it was (R5), also behind the lists' ends, whether it is valid or not.
func TestPassedUnchanged(t *testing.T) {
	first := objectOf("z", "y", "x")
	first.Syms[1].Rels = []api.Rel{word(0), half(6)}
	first.Syms[2].Notes = []api.Note{{Kind: api.NotePort, N: 9}, {Kind: api.NoteConsole}, {Kind: api.NotePages, N: 3}}
	bad := copyOf(first)
	bad.Syms[2].Rels = []api.Rel{half(6), word(0)}
	for _, o := range []api.Object{first, bad} {
		syms, allSyms := roomy(o.Syms)
		rels, allRels := roomy(o.Syms[1].Rels)
		notes, allNotes := roomy(o.Syms[2].Notes)
		o.Syms, o.Syms[1].Rels, o.Syms[2].Notes = syms, rels, notes
		objects, allObjects := roomy([]api.Object{o, objectOf("b", "a"), o})
		wasSyms, wasRels, wasNotes, wasObjects := copyOf(api.Object{Syms: allSyms}).Syms, slices.Clone(allRels), slices.Clone(allNotes), copies(allObjects)
		Check(o)
		for _, s := range o.Syms {
			Sym(s)
			Find(o, s.Name)
		}
		Find(o, "none")
		Names(objects...)
		if !reflect.DeepEqual(allSyms, wasSyms) || !reflect.DeepEqual(allRels, wasRels) || !reflect.DeepEqual(allNotes, wasNotes) || !reflect.DeepEqual(allObjects, wasObjects) {
			t.Errorf("something that was passed is changed: %v", o)
		}
	}
}

// P8.2: what Names answers is new (R5), and the same each time (R6).
func TestNamesNew(t *testing.T) {
	o := objectOf("b", "a", "c")
	one, two := Names(o), Names(o)
	for i := range one {
		one[i] = "changed"
	}
	for _, l := range [][]string{two, Names(o)} {
		if !slices.Equal(l, []string{"a", "b", "c"}) {
			t.Errorf("Names: %q", l)
		}
	}
	is(t, "the object behind that", true, Check(o))
	for i, name := range []string{"b", "a", "c"} {
		if at, ok := Find(o, name); at != i || !ok {
			t.Errorf("Find of %s: %d, %v", name, at, ok)
		}
	}
}

// P8.2: a name that Names answers is memory of its own (R5): it keeps no great text of which the symbol's name is a piece.
func TestNamesOwnMemory(t *testing.T) {
	text := strings.Repeat("name", 1000)
	o := objectOf(text[400:416], text[801:833])
	first := uintptr(unsafe.Pointer(unsafe.StringData(text)))
	for _, name := range Names(o) {
		if at := uintptr(unsafe.Pointer(unsafe.StringData(name))); at >= first && at < first+uintptr(len(text)) {
			t.Errorf("%q lies in the text", name)
		}
	}
}
