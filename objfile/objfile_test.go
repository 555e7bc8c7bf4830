package objfile

import (
	"fmt"
	"maps"
	"slices"
	"strings"
	"testing"
	"unsafe"

	"aedicule/api"
)

// text: n bytes of all values.
func text(n int) string {
	b := make([]byte, n)
	for i := range b {
		b[i] = byte(i*167 + i*i/251 + i>>8)
	}
	return string(b)
}

// numbered: a symbol of data, with a name of its own.
func numbered(i int) api.Sym {
	return api.Sym{Name: fmt.Sprintf("s%d", i), Kind: api.SymData, Size: uint32(i + 1)}
}

// objectOf: an object with n such symbols.
func objectOf(n int) api.Object {
	o := api.Object{Name: "o"}
	for i := range n {
		o.Syms = append(o.Syms, numbered(i))
	}
	return o
}

// one: an object with that symbol alone.
func one(s api.Sym) api.Object { return api.Object{Name: "o", Syms: []api.Sym{s}} }

// P9.1: the chapter's example, and objects of other names without symbols.
func TestNoSymbols(t *testing.T) {
	both(t, "the example", api.Object{Name: "o"}, "AOB1\x01\x00o\x00\x00")
	both(t, "another name", api.Object{Name: "heap_get.0"}, "AOB1\x0a\x00heap_get.0\x00\x00")
	both(t, "the longest name", api.Object{Name: strings.Repeat("z", 32)}, "AOB1\x20\x00zzzzzzzzzzzzzzzzzzzzzzzzzzzzzzzz\x00\x00")
}

// What the symbols of the object rich are encoded as, written out.
const (
	mainIn = "\x04\x00main" + "\x01" + "\x01" + "\x08\x00\x00\x00" + "\x08\x0012345678" +
		"\x02\x00" + "\x00\x00\x00\x00" + "\x02" + "\x01\x00x" + "\xff\xff\xff\xff" + "\x04\x00\x00\x00" + "\x01" + "\x03\x00y_2" + "\x01\x02\x03\x04" +
		"\x01" + "\x03" + "\xcd\xab\x00\x00" + "\x00\x00\x00\x00"
	xIn = "\x01\x00x" + "\x00" + "\x02" + "\x03\x12\x00\x00" + "\x00\x00" + "\x00\x00" + "\x00"
	yIn = "\x03\x00y_2" + "\x02" + "\x03" + "\x03\x00\x00\x00" + "\x02\x00\x00\xff" + "\x00\x00" +
		"\x03" + "\x02" + "\x09\x00\x00\x00" + "\x02\x01\x00\x00" + "\x01" + "\x04\x03\x00\x00" + "\x00\x00\x00\x00" + "\x04" + "\x00\x00\x00\x00" + "\x00\x00\x00\x00"
)

// rich: an object of three symbols of different kinds, and its encoding.
func rich() (api.Object, string) {
	return api.Object{Name: "a.o", Syms: []api.Sym{
		{
			Name: "main", Bind: api.BindStrong, Kind: api.SymCode, Size: 8, Bytes: "12345678",
			Rels:  []api.Rel{{Off: 0, Kind: api.RelHalf, Name: "x", Add: most}, {Off: 4, Kind: api.RelWord, Name: "y_2", Add: 0x04030201}},
			Notes: []api.Note{{Kind: api.NotePort, N: 0xabcd}},
		},
		{Name: "x", Bind: api.BindLocal, Kind: api.SymData, Size: 0x1203},
		{
			Name: "y_2", Bind: api.BindWeak, Kind: api.SymConst, Size: 3, Bytes: "\x00\xff",
			Notes: []api.Note{{Kind: api.NoteExtent, N: 9, M: 0x102}, {Kind: api.NotePages, N: 0x304}, {Kind: api.NoteConsole}},
		},
	}}, "AOB1\x03\x00a.o\x03\x00" + mainIn + xIn + yIn
}

// P9.1: an object with one symbol, with two, with three, byte by byte.
func TestBytes(t *testing.T) {
	o, s := rich()
	main, x, y := o.Syms[0], o.Syms[1], o.Syms[2]
	both(t, "three symbols", o, s)
	both(t, "one symbol", one(main), "AOB1\x01\x00o\x01\x00"+mainIn)
	both(t, "one symbol", one(x), "AOB1\x01\x00o\x01\x00"+xIn)
	both(t, "one symbol", one(y), "AOB1\x01\x00o\x01\x00"+yIn)
	both(t, "two symbols", api.Object{Name: "two", Syms: []api.Sym{y, main}}, "AOB1\x03\x00two\x02\x00"+yIn+mainIn)
}

// P9.1: each number of symbols that may be, and some that may not.
func TestManySymbols(t *testing.T) {
	for n := range 65 {
		o := objectOf(n)
		want := "AOB1\x01\x00o" + string([]byte{byte(n), 0})
		for i := range n {
			name := fmt.Sprint("s", i)
			want += string([]byte{byte(len(name)), 0}) + name + "\x00\x02" + string([]byte{byte(i + 1), 0, 0, 0}) + "\x00\x00\x00\x00\x00"
		}
		both(t, fmt.Sprint(n, " symbols"), o, want)
	}
	for _, n := range []int{65, 66, 128, 255, 256, 257, 320, 65535} {
		o := objectOf(n)
		neither(t, fmt.Sprint(n, " symbols"), o, encoded(o))
	}
}

// manyRels: a symbol of data with n relocations, each behind the one before.
func manyRels(n int) api.Sym {
	s := api.Sym{Name: "d", Kind: api.SymData, Size: 8192, Bytes: text(8192)}
	for i := range n {
		s.Rels = append(s.Rels, api.Rel{Off: uint32(8 * i), Kind: uint8(1 + i%2), Name: fmt.Sprint("r", i), Add: uint32(i * 0x1000193)})
	}
	return s
}

// manyNotes: a symbol of data with n notes.
func manyNotes(n int) api.Sym {
	s := numbered(0)
	for i := range n {
		s.Notes = append(s.Notes, api.Note{Kind: api.NotePort, N: uint32(0x1234 + i)})
	}
	return s
}

// P9.1: symbols with no relocations, with some, with as many as may be and with more; the same of notes.
func TestManyRelsAndNotes(t *testing.T) {
	for _, n := range []int{0, 1, 2, 3, 254, 255, 256, 257, 511, 512, 1023, 1024} {
		o := one(manyRels(n))
		s := encoded(o)
		both(t, fmt.Sprint(n, " relocations"), o, s)
		if at := len("AOB1") + 3 + 2 + 3 + 1 + 1 + 4 + 2 + 8192; s[at:at+2] != string([]byte{byte(n & 255), byte(n >> 8)}) {
			t.Fatalf("%d relocations: their number is %q", n, s[at:at+2])
		}
	}
	for _, n := range []int{1025, 1026, 2048, 65535} {
		neither(t, fmt.Sprint(n, " relocations"), one(manyRels(n)), encoded(one(manyRels(n))))
	}
	for n := range 256 {
		o := one(manyNotes(n))
		if n <= 8 {
			both(t, fmt.Sprint(n, " notes"), o, encoded(o))
		} else {
			neither(t, fmt.Sprint(n, " notes"), o, encoded(o))
		}
	}
}

// P9.1: symbols with no bytes, with some, with as many as may be and with more; each byte's value.
func TestManyBytes(t *testing.T) {
	for _, n := range []int{0, 1, 2, 255, 256, 257, 4096, 8191, 8192} {
		s := api.Sym{Name: "d", Kind: api.SymConst, Size: 8192, Bytes: text(n)}
		want := "AOB1\x01\x00o\x01\x00\x01\x00d\x00\x03\x00\x20\x00\x00" + string([]byte{byte(n & 255), byte(n >> 8)}) + text(n) + "\x00\x00\x00"
		both(t, fmt.Sprint(n, " bytes"), one(s), want)
	}
	for _, n := range []int{8193, 8200, 16384, 65535} {
		for _, size := range []uint32{8192, uint32(n), uint32(n + 1)} {
			o := one(api.Sym{Name: "d", Kind: api.SymConst, Size: size, Bytes: text(n)})
			neither(t, fmt.Sprint(n, " bytes of ", size), o, encoded(o))
		}
	}
	for c := range 256 {
		b := string([]byte{byte(c)})
		both(t, fmt.Sprint("the byte ", c), one(api.Sym{Name: "d", Kind: api.SymConst, Size: 1, Bytes: b}), "AOB1\x01\x00o\x01\x00\x01\x00d\x00\x03\x01\x00\x00\x00\x01\x00"+b+"\x00\x00\x00")
	}
	long := one(api.Sym{Name: "d", Kind: api.SymConst, Size: 8192, Bytes: text(1 << 20)})
	puts(t, "more bytes than an encoding can tell", long, "")
}

// order: the names of an encoding's parts, one behind the other.
var order = []string{"magic", "object", "syms", "name", "bind", "kind", "size", "bytes", "rels", "off", "relkind", "relname", "add", "notes", "notekind", "n", "m"}

// parts: an encoding's parts, by their names.
type parts map[string]string

// plain: the parts of an object with one symbol of data, which has one relocation and one note.
func plain() parts {
	return parts{
		"magic": "AOB1", "object": "\x01\x00o", "syms": "\x01\x00",
		"name": "\x01\x00d", "bind": "\x02", "kind": "\x02", "size": "\x00\x20\x00\x00", "bytes": "\x00\x20" + text(8192),
		"rels": "\x01\x00", "off": "\x34\x12\x00\x00", "relkind": "\x02", "relname": "\x01\x00r", "add": "\x01\x02\x03\x04",
		"notes": "\x01", "notekind": "\x02", "n": "\x07\x00\x00\x00", "m": "\x02\x01\x00\x00",
	}
}

// plainObject: the object itself.
func plainObject() api.Object {
	return one(api.Sym{
		Name: "d", Bind: api.BindWeak, Kind: api.SymData, Size: 8192, Bytes: text(8192),
		Rels:  []api.Rel{{Off: 0x1234, Kind: api.RelHalf, Name: "r", Add: 0x04030201}},
		Notes: []api.Note{{Kind: api.NoteExtent, N: 7, M: 0x102}},
	})
}

// with: the encoding, with other parts.
func with(other parts) string {
	p := plain()
	maps.Copy(p, other)
	var s string
	for _, name := range order {
		s += p[name]
	}
	return s
}

// change: what is another thing in the object, and what in its encoding.
type change struct {
	other parts
	do    func(o *api.Object, s *api.Sym, r *api.Rel, n *api.Note)
}

func (c change) object() api.Object {
	o := plainObject()
	s := &o.Syms[0]
	c.do(&o, s, &s.Rels[0], &s.Notes[0])
	return o
}

// noted: the change to a note of those numbers.
func noted(kind uint8, n, m uint32, inKind, inN, inM string) change {
	return change{parts{"notekind": inKind, "n": inN, "m": inM}, func(_ *api.Object, _ *api.Sym, _ *api.Rel, note *api.Note) {
		*note = api.Note{Kind: kind, N: n, M: m}
	}}
}

// at: the change to a relocation of that kind there.
func at(off uint32, kind uint8, inOff, inKind string) change {
	return change{parts{"off": inOff, "relkind": inKind}, func(_ *api.Object, _ *api.Sym, r *api.Rel, _ *api.Note) {
		r.Off, r.Kind = off, kind
	}}
}

// sizedAs: the change to a symbol of that kind, size and bytes, without relocations.
func sizedAs(kind uint8, size uint32, bytes string, inKind, inSize, inBytes string) change {
	return change{parts{"kind": inKind, "size": inSize, "bytes": inBytes, "rels": "\x00\x00", "off": "", "relkind": "", "relname": "", "add": ""}, func(_ *api.Object, s *api.Sym, _ *api.Rel, _ *api.Note) {
		s.Kind, s.Size, s.Bytes, s.Rels = kind, size, bytes, nil
	}}
}

// named: the changes to a name: the object's, the symbol's, the relocation's.
func named(name, in string) []change {
	return []change{
		{parts{"object": in}, func(o *api.Object, _ *api.Sym, _ *api.Rel, _ *api.Note) { o.Name = name }},
		{parts{"name": in}, func(_ *api.Object, s *api.Sym, _ *api.Rel, _ *api.Note) { s.Name = name }},
		{parts{"relname": in}, func(_ *api.Object, _ *api.Sym, r *api.Rel, _ *api.Note) { r.Name = name }},
	}
}

func bound(bind uint8, in string) change {
	return change{parts{"bind": in}, func(_ *api.Object, s *api.Sym, _ *api.Rel, _ *api.Note) { s.Bind = bind }}
}

func kept(kind uint8, in string) change {
	return change{parts{"kind": in}, func(_ *api.Object, s *api.Sym, _ *api.Rel, _ *api.Note) { s.Kind = kind }}
}

func sized(size uint32, in string) change {
	return change{parts{"size": in}, func(_ *api.Object, s *api.Sym, _ *api.Rel, _ *api.Note) { s.Size = size }}
}

func added(add uint32, in string) change {
	return change{parts{"add": in}, func(_ *api.Object, _ *api.Sym, r *api.Rel, _ *api.Note) { r.Add = add }}
}

const zero4 = "\x00\x00\x00\x00"

// mayBe: changes that leave the object valid: each field at its least and at its greatest, and with each byte another one.
func mayBe() []change {
	l := []change{
		{parts{}, func(*api.Object, *api.Sym, *api.Rel, *api.Note) {}},
		bound(0, "\x00"), bound(1, "\x01"),
		kept(1, "\x01"), kept(3, "\x03"),
		sizedAs(2, 1, "", "\x02", "\x01\x00\x00\x00", "\x00\x00"),
		sizedAs(3, 1, "x", "\x03", "\x01\x00\x00\x00", "\x01\x00x"),
		sizedAs(2, 0x1f02, "xy", "\x02", "\x02\x1f\x00\x00", "\x02\x00xy"),
		sizedAs(1, 8, "codecode", "\x01", "\x08\x00\x00\x00", "\x08\x00codecode"),
		sizedAs(3, 8192, "", "\x03", "\x00\x20\x00\x00", "\x00\x00"),
		at(0, 1, zero4, "\x01"), at(0, 2, zero4, "\x02"), at(8188, 1, "\xfc\x1f\x00\x00", "\x01"), at(8190, 2, "\xfe\x1f\x00\x00", "\x02"), at(1, 1, "\x01\x00\x00\x00", "\x01"), at(0x102, 2, "\x02\x01\x00\x00", "\x02"),
		added(0, zero4), added(1, "\x01\x00\x00\x00"), added(0x100, "\x00\x01\x00\x00"), added(0x10000, "\x00\x00\x01\x00"), added(0x1000000, "\x00\x00\x00\x01"), added(0xfedcba98, "\x98\xba\xdc\xfe"), added(most, "\xff\xff\xff\xff"),
		noted(1, 0, 0, "\x01", zero4, zero4), noted(1, 1024, 0, "\x01", "\x00\x04\x00\x00", zero4), noted(1, 0x302, 0, "\x01", "\x02\x03\x00\x00", zero4),
		noted(2, 0, 1, "\x02", zero4, "\x01\x00\x00\x00"), noted(2, 15, 1024, "\x02", "\x0f\x00\x00\x00", "\x00\x04\x00\x00"), noted(2, 3, 0x304, "\x02", "\x03\x00\x00\x00", "\x04\x03\x00\x00"),
		noted(3, 1, 0, "\x03", "\x01\x00\x00\x00", zero4), noted(3, 65535, 0, "\x03", "\xff\xff\x00\x00", zero4), noted(3, 0xabcd, 0, "\x03", "\xcd\xab\x00\x00", zero4),
		noted(4, 0, 0, "\x04", zero4, zero4),
	}
	for _, name := range []string{"_", "x", "0.9", strings.Repeat("ab", 16)} {
		l = append(l, named(name, string([]byte{byte(len(name)), 0})+name)...)
	}
	return l
}

// mayNotBe: changes after which the object is not valid, though it has what would be an encoding.
func mayNotBe() []change {
	l := []change{
		bound(3, "\x03"), bound(255, "\xff"),
		kept(0, "\x00"), kept(4, "\x04"), kept(255, "\xff"),
		sized(0, zero4), sized(8191, "\xff\x1f\x00\x00"), sized(8193, "\x01\x20\x00\x00"), sized(0x12000, "\x00\x20\x01\x00"), sized(0x1002000, "\x00\x20\x00\x01"), sized(most, "\xff\xff\xff\xff"),
		sizedAs(2, 0, "", "\x02", zero4, "\x00\x00"), sizedAs(2, 1, "xy", "\x02", "\x01\x00\x00\x00", "\x02\x00xy"),
		sizedAs(1, 8, "short", "\x01", "\x08\x00\x00\x00", "\x05\x00short"), sizedAs(1, 7, "seven.7", "\x01", "\x07\x00\x00\x00", "\x07\x00seven.7"),
		at(0, 0, zero4, "\x00"), at(0, 3, zero4, "\x03"), at(0, 255, zero4, "\xff"),
		at(8189, 1, "\xfd\x1f\x00\x00", "\x01"), at(8191, 2, "\xff\x1f\x00\x00", "\x02"), at(0x11234, 2, "\x34\x12\x01\x00", "\x02"), at(0x1001234, 2, "\x34\x12\x00\x01", "\x02"), at(most, 2, "\xff\xff\xff\xff", "\x02"),
		noted(0, 0, 0, "\x00", zero4, zero4), noted(5, 0, 0, "\x05", zero4, zero4), noted(255, 1, 1, "\xff", "\x01\x00\x00\x00", "\x01\x00\x00\x00"),
		noted(1, 1025, 0, "\x01", "\x01\x04\x00\x00", zero4), noted(1, 0x10000, 0, "\x01", "\x00\x00\x01\x00", zero4), noted(1, 0x1000000, 0, "\x01", "\x00\x00\x00\x01", zero4), noted(1, 1, 1, "\x01", "\x01\x00\x00\x00", "\x01\x00\x00\x00"),
		noted(2, 16, 1, "\x02", "\x10\x00\x00\x00", "\x01\x00\x00\x00"), noted(2, 0, 0, "\x02", zero4, zero4), noted(2, 0, 1025, "\x02", zero4, "\x01\x04\x00\x00"), noted(2, 0, 0x10001, "\x02", zero4, "\x01\x00\x01\x00"), noted(2, 0, 0x1000001, "\x02", zero4, "\x01\x00\x00\x01"),
		noted(3, 0, 0, "\x03", zero4, zero4), noted(3, 65536, 0, "\x03", "\x00\x00\x01\x00", zero4), noted(3, 1, 1, "\x03", "\x01\x00\x00\x00", "\x01\x00\x00\x00"),
		noted(4, 1, 0, "\x04", "\x01\x00\x00\x00", zero4), noted(4, 0, 1, "\x04", zero4, "\x01\x00\x00\x00"),
	}
	for _, name := range []string{"", "A", "a b", "ä", "a\x00", strings.Repeat("a", 33)} {
		l = append(l, named(name, string([]byte{byte(len(name)), 0})+name)...)
	}
	return append(l, named(strings.Repeat("a", 256), "\x00\x01"+strings.Repeat("a", 256))...)
}

// P9.1, P9.3: each field at its bounds, and each byte of a field, in the object and in its encoding.
func TestFields(t *testing.T) {
	for i, c := range mayBe() {
		both(t, fmt.Sprint("valid change ", i), c.object(), with(c.other))
	}
	for i, c := range mayNotBe() {
		neither(t, fmt.Sprint("change ", i, " that is not valid"), c.object(), with(c.other))
	}
}

// P9.3: objects that differ in one field alone have different encodings, and no two of these objects are the same.
func TestNoTwoTheSame(t *testing.T) {
	had := map[string]int{}
	for i, c := range mayBe() {
		s, e := Put(c.object())
		if first, is := had[s]; is || e != api.OK {
			t.Errorf("changes %d and %d have the same encoding, %d", first, i, e)
		}
		had[s] = i
	}
	for i, c := range mayBe() {
		for j, d := range mayBe() {
			o, eo := Get(with(c.other))
			p, ep := Get(with(d.other))
			if eo != api.OK || ep != api.OK || equal(o, p) != (i == j) {
				t.Errorf("changes %d and %d: the same object, or none", i, j)
			}
		}
	}
}

// P9.3: objects with the same parts in another order, or otherwise parted, have different encodings.
func TestOtherOrder(t *testing.T) {
	base, _ := rich()
	l := []api.Object{base, copyOf(base), copyOf(base), copyOf(base), copyOf(base), copyOf(base), copyOf(base)}
	slices.Reverse(l[1].Syms)
	slices.Reverse(l[2].Syms[2].Notes)
	l[3].Syms[0].Rels = l[3].Syms[0].Rels[:1]
	l[4].Syms[1].Notes, l[4].Syms[2].Notes = l[4].Syms[2].Notes, nil
	l[5].Syms = l[5].Syms[:2]
	l[6].Syms[2].Bytes += "\x00"
	had := map[string]int{}
	for i, o := range l {
		what := fmt.Sprint("object ", i)
		both(t, what, o, encoded(o))
		s, _ := Put(o)
		if first, is := had[s]; is {
			t.Errorf("objects %d and %d have the same encoding", first, i)
		}
		had[s] = i
	}
}

// notValid: objects that are not valid as a whole, or in a symbol among others.
func notValid() []api.Object {
	l := []api.Object{{}, {Syms: []api.Sym{numbered(0)}}, {Name: "O"}, {Name: strings.Repeat("o", 33)}, {Name: "o", Syms: []api.Sym{{}}}}
	for _, n := range []int{1, 2, 5, 64} {
		for _, i := range []int{0, n / 2, n - 1} {
			for _, spoil := range []func(s *api.Sym){
				func(s *api.Sym) { s.Name = "" },
				func(s *api.Sym) { s.Bind = 3 },
				func(s *api.Sym) { s.Kind = 4 },
				func(s *api.Sym) { s.Size = 0 },
				func(s *api.Sym) { s.Bytes = strings.Repeat("b", 66) },
				func(s *api.Sym) { s.Kind = api.SymCode },
				func(s *api.Sym) { s.Rels = []api.Rel{{Kind: api.RelWord, Name: "r"}} },
				func(s *api.Sym) { s.Notes = make([]api.Note, 1) },
				func(s *api.Sym) { s.Notes = slices.Repeat([]api.Note{{Kind: api.NoteConsole}}, 9) },
			} {
				o := objectOf(n)
				spoil(&o.Syms[i])
				l = append(l, o)
			}
		}
	}
	return append(l, twins()...)
}

// twins: objects in which two symbols have the same name, and that alone is wrong.
func twins() []api.Object {
	var l []api.Object
	for _, n := range []int{2, 3, 64} {
		o := objectOf(n)
		o.Syms[n-1].Name = o.Syms[0].Name
		p := objectOf(n)
		p.Syms[1] = p.Syms[0]
		l = append(l, o, p)
	}
	return l
}

// P9.1: objects that are not valid are neither put nor got; Get sees it at the whole alone, as all is there.
func TestNotValid(t *testing.T) {
	for i, o := range notValid() {
		s := encoded(o)
		if _, ok := decoded(s); !ok {
			t.Fatalf("object %d is not all there", i)
		}
		neither(t, fmt.Sprint("object ", i), o, s)
	}
}

// P9.1: what a longer encoding cannot tell at all is not put: numbers beyond their bytes.
func TestPutTooGreat(t *testing.T) {
	o := one(manyNotes(256))
	puts(t, "256 notes", o, "")
	puts(t, "257 notes", one(manyNotes(257)), "")
	puts(t, "65,536 symbols", objectOf(65536), "")
	puts(t, "65,537 symbols", objectOf(65537), "")
	puts(t, "65,536 relocations", one(manyRels(65536)), "")
	puts(t, "a name of 65,537 bytes", api.Object{Name: strings.Repeat("o", 65537)}, "")
}

// some: encodings, of small objects.
func some() []string {
	_, s := rich()
	return []string{"AOB1\x01\x00o\x00\x00", encoded(objectOf(1)), encoded(objectOf(5)), encoded(one(manyNotes(8))), s}
}

// P9.1: an encoding that is cut at any place, or has more behind it, is none.
func TestCut(t *testing.T) {
	for i, s := range append(some(), with(nil), encoded(objectOf(64))) {
		agrees(t, "the whole", s)
		for n := range len(s) {
			if n < 400 || n > len(s)-400 || n%97 == 0 {
				getsNone(t, fmt.Sprintf("encoding %d cut at %d", i, n), s[:n])
			}
		}
		for c := range 256 {
			getsNone(t, fmt.Sprintf("encoding %d, and the byte %d", i, c), s+string([]byte{byte(c)}))
		}
		getsNone(t, "an encoding twice", s+s)
		getsNone(t, "an encoding behind a byte", "\x00"+s)
		getsNone(t, "an encoding without its first byte", s[1:])
	}
}

// P9.1, P9.3: each byte of an encoding, changed to each other value.
func TestEachByte(t *testing.T) {
	count := map[bool]int{}
	for i, s := range some() {
		for at := range len(s) {
			for c := range 256 {
				if b := byte(c); b != s[at] {
					is := agrees(t, fmt.Sprintf("encoding %d with %d at %d", i, b, at), s[:at]+string([]byte{b})+s[at+1:])
					count[is]++
				}
			}
		}
	}
	if count[true] < 1000 || count[false] < 1000 {
		t.Errorf("%d were valid, %d not: too few of one sort", count[true], count[false])
	}
}

// P9.1: no bytes, the beginning alone or cut, and another beginning.
func TestBeginning(t *testing.T) {
	for _, s := range []string{"", "A", "AO", "AOB", "AOB1", "\x00", "AOB1\x00", "AOB1\x01", "AOB1\x01\x00", "AOB1\x01\x00o", "AOB1\x01\x00o\x00", zero4, "AOB1\x00\x00\x00\x00", strings.Repeat("\xff", 100), strings.Repeat("\x00", 100), strings.Repeat("AOB1", 9)} {
		getsNone(t, "a beginning", s)
	}
	for _, magic := range []string{"", "AOB", "AOB2", "AOB0", "aob1", "aOB1", "AoB1", "AOb1", "AIM1", "AST1", "AAR1", "AFZ1", "ASL1", "1BOA", "AOB1A", "AOB1AOB1", zero4, "\x04\x00AOB1"} {
		getsNone(t, "another beginning", with(parts{"magic": magic}))
		getsNone(t, "another beginning", magic+"\x01\x00o\x00\x00")
	}
}

// P9.1: numbers of parts, and of a text's bytes, that are greater than what follows, up to the greatest, or less.
func TestCounts(t *testing.T) {
	for _, name := range []string{"syms", "rels"} {
		for _, in := range []string{"\x00\x00", "\x02\x00", "\x03\x00", "\x40\x00", "\x41\x00", "\xff\x00", "\x00\x01", "\x01\x01", "\x00\x04", "\x01\x04", "\x00\x80", "\xfe\xff", "\xff\xff"} {
			getsNone(t, name+brief(in), with(parts{name: in}))
		}
	}
	for c := range 256 {
		if c != 1 {
			getsNone(t, fmt.Sprint("the number of notes ", c), with(parts{"notes": string([]byte{byte(c)})}))
		}
	}
	for _, name := range []string{"object", "name", "relname", "bytes"} {
		for _, in := range []string{"\x00\x00", "\x02\x00", "\xff\x00", "\x01\x01", "\x01\x20", "\x00\x80", "\xfe\xff", "\xff\xff"} {
			getsNone(t, name+brief(in), with(parts{name: in + plain()[name][2:]}))
		}
	}
	for _, s := range []string{"AOB1\x01\x00o\xff\xff", "AOB1\xff\xffo", "AOB1\x01\x00o\x01\x00\xff\xff", "AOB1\x01\x00o\x01\x00\x01\x00d\x02\x02\x01\x00\x00\x00\x00\x00\xff\xff", "AOB1\x01\x00o\x01\x00\x01\x00d\x02\x02\x01\x00\x00\x00\x00\x00\x00\x00\xff"} {
		getsNone(t, "nothing behind the greatest number", s)
		for _, n := range []int{1, 100, 70000, 1 << 20} {
			getsNone(t, "noughts behind the greatest number", s+strings.Repeat("\x00", n))
			getsNone(t, "ones behind the greatest number", s+strings.Repeat("\x01", n))
		}
	}
}

// P9.2: All of no text, of some, of many, and of one several times.
func TestAll(t *testing.T) {
	for _, l := range [][]string{nil, {}} {
		if got, n, e := All(l...); len(got) != 0 || n != 0 || e != api.OK {
			t.Errorf("All of nothing: %v, %d, %d", got, n, e)
		}
	}
	l := some()
	agreesAll(t, "some", l...)
	agreesAll(t, "twice the same", l[4], l[4])
	slices.Reverse(l)
	agreesAll(t, "the last one first", l...)
	var many []string
	var want []api.Object
	for i := range 200 {
		o := objectOf(i % 65)
		many, want = append(many, encoded(o)), append(want, o)
	}
	got, n, e := All(many...)
	if n != 200 || e != api.OK || !equalAll(got, want) {
		t.Errorf("All of 200: %d objects, %d, %d", len(got), n, e)
	}
}

// P9.2: the index of the first text that is no encoding, wherever one stands, or two.
func TestAllNone(t *testing.T) {
	bad := []string{"", "AOB1", "x", some()[4] + "x", some()[4][1:], encoded(notValid()[0]), encoded(twins()[0]), "\xff\xff"}
	for _, n := range []int{1, 2, 3, 7, 40} {
		for i := range n {
			for j := i; j < n; j++ {
				l := slices.Repeat(some(), 8)[:n]
				l[i], l[j] = bad[(i+n)%len(bad)], bad[(j+n)%len(bad)]
				got, at, e := All(l...)
				if len(got) != 0 || at != i || e != api.ErrForm {
					t.Fatalf("All of %d, with none at %d and %d: %d objects, %d, %d", n, i, j, len(got), at, e)
				}
				agreesAll(t, "with some that are none", l...)
			}
		}
	}
}

// roomy: the list, with room behind it in which something stands.
func roomy[T any](l []T) (list, all []T) {
	all = append(slices.Clone(l), l...)
	return all[:len(l)], all
}

// P9.1, P9.2: what is passed is as it was (R5), also behind the lists' ends, whether it is valid or not.
func TestPassedUnchanged(t *testing.T) {
	first, s := rich()
	bad := copyOf(first)
	bad.Syms[2].Notes[2].N = 1
	for _, o := range []api.Object{first, bad} {
		syms, allSyms := roomy(o.Syms)
		rels, allRels := roomy(o.Syms[0].Rels)
		notes, allNotes := roomy(o.Syms[2].Notes)
		o.Syms = syms
		o.Syms[0].Rels, o.Syms[2].Notes = rels, notes
		wasSyms, wasRels, wasNotes := copyOf(api.Object{Syms: allSyms}), slices.Clone(allRels), slices.Clone(allNotes)
		for range 2 {
			Put(o)
		}
		if !equal(api.Object{Syms: allSyms}, wasSyms) || !slices.Equal(allRels, wasRels) || !slices.Equal(allNotes, wasNotes) {
			t.Errorf("Put changed what it was passed: %v", o)
		}
	}
	for _, l := range [][]string{{s, s, encoded(first)}, {s, "x", s}} {
		texts, all := roomy(l)
		was := slices.Clone(all)
		All(texts...)
		if !slices.Equal(all, was) {
			t.Error("All changed its texts")
		}
	}
}

// fill: other values in everything of the object, also behind its lists' ends.
func fill(o api.Object) {
	syms := o.Syms[:cap(o.Syms)]
	for i := range syms {
		for j := range syms[i].Rels[:cap(syms[i].Rels)] {
			syms[i].Rels[:cap(syms[i].Rels)][j] = api.Rel{Off: 1, Kind: 9, Name: "filled", Add: 3}
		}
		for j := range syms[i].Notes[:cap(syms[i].Notes)] {
			syms[i].Notes[:cap(syms[i].Notes)][j] = api.Note{Kind: 9, N: 1, M: 2}
		}
		syms[i] = api.Sym{Name: "filled", Bind: 7, Kind: 7, Size: 7, Bytes: "filled"}
	}
}

// P9.1, P9.2: what is answered is new (R5): another answer, and another list of the same answer, is as it was when one is filled with other values; and the same is answered each time (R6).
func TestAnsweredNew(t *testing.T) {
	want, s := rich()
	kept, _ := Get(s)
	l, _, _ := All(s, s)
	other, _ := Get(s)
	fill(other)
	fill(l[0])
	if !equal(kept, want) || !equal(l[1], want) {
		t.Error("one answer is another one's memory")
	}
	both(t, "behind that", want, s)
	var lists []api.Sym
	for i := range 4 {
		m := manyNotes(3)
		m.Name = fmt.Sprint("m", i)
		m.Size, m.Bytes = 8, "12345678"
		m.Rels = []api.Rel{{Kind: api.RelHalf, Name: "r"}, {Off: 2, Kind: api.RelHalf, Name: "r"}, {Off: 4, Kind: api.RelWord, Name: "r"}}
		lists = append(lists, m)
	}
	o, _ := Get(encoded(api.Object{Name: "o", Syms: lists}))
	fill(one(o.Syms[1]))
	o.Syms[1] = lists[1]
	if !equal(o, api.Object{Name: "o", Syms: lists}) {
		t.Error("two lists of one answer share memory")
	}
}

// P9.1: the texts of what Get answers are memory of their own (R5), as is what Put answers.
func TestOwnMemory(t *testing.T) {
	_, s := rich()
	o, _ := Get(s)
	texts := []string{o.Name}
	for _, y := range o.Syms {
		texts = append(texts, y.Name, y.Bytes)
		for _, r := range y.Rels {
			texts = append(texts, r.Name)
		}
	}
	for _, text := range texts {
		if lies(text, s) {
			t.Errorf("%q lies in the encoding", text)
		}
	}
	great := one(api.Sym{Name: "d", Kind: api.SymData, Size: 8192, Bytes: text(8192)})
	if s, _ := Put(great); lies(s, great.Syms[0].Bytes) || lies(great.Syms[0].Bytes, s) {
		t.Error("the encoding lies in the object")
	}
}

// lies: whether a text's memory begins in another one's.
func lies(text, in string) bool {
	if text == "" {
		return false
	}
	from, at := uintptr(unsafe.Pointer(unsafe.StringData(in))), uintptr(unsafe.Pointer(unsafe.StringData(text)))
	return at >= from && at < from+uintptr(len(in))
}

// P9.1: lists that are nil and lists that are empty are the same (R4), to Put and in what Get answers.
func TestNil(t *testing.T) {
	none := one(api.Sym{Name: "d", Kind: api.SymData, Size: 1})
	empty := one(api.Sym{Name: "d", Kind: api.SymData, Size: 1, Rels: []api.Rel{}, Notes: []api.Note{}})
	want := "AOB1\x01\x00o\x01\x00\x01\x00d\x00\x02\x01\x00\x00\x00\x00\x00\x00\x00\x00"
	both(t, "nil lists", none, want)
	both(t, "empty lists", empty, want)
	both(t, "nil symbols", api.Object{Name: "o", Syms: nil}, "AOB1\x01\x00o\x00\x00")
	both(t, "empty symbols", api.Object{Name: "o", Syms: []api.Sym{}}, "AOB1\x01\x00o\x00\x00")
	puts(t, "nothing", api.Object{}, "")
	getsNone(t, "nothing", encoded(api.Object{}))
}
