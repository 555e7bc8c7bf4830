package asm

import (
	"fmt"
	"math/rand"
	"slices"
	"strings"
	"testing"
	"unsafe"

	"aedicule/api"
	"aedicule/cpu"
	"aedicule/space"
)

// makes: that Make of the lines, as a strong symbol m without notes, answers what the model does, and that error.
func makes(t *testing.T, what string, want api.Errno, l ...api.Line) {
	t.Helper()
	if e := agrees(t, what, "m", api.BindStrong, nil, l...); e != want {
		t.Fatalf("%s: %d; want %d", what, e, want)
	}
}

// rel: the relocation at the number of line i.
func rel(i uint32, name string, add uint32) api.Rel {
	return api.Rel{Off: 8*i + 4, Kind: api.RelWord, Name: name, Add: add}
}

// madeOf: that Make of the lines, as a strong symbol m without notes, answers a symbol with those bytes and relocations.
func madeOf(t *testing.T, what, bytes string, rels []api.Rel, l ...api.Line) {
	t.Helper()
	s, e := Make("m", api.BindStrong, nil, l...)
	answers(t, what, s, e, api.Sym{Name: "m", Bind: api.BindStrong, Kind: api.SymCode, Size: uint32(len(bytes)), Bytes: bytes, Rels: rels}, api.OK)
	makes(t, what, api.OK, l...)
}

// numbered: n lines, each of another instruction.
func numbered(n int) []api.Line {
	var l []api.Line
	for i := range n {
		l = append(l, Li(uint8(i%16), uint32(i)))
	}
	return l
}

// P10.1: the chapter's example.
func TestExample(t *testing.T) {
	s, e := Make("main", api.BindStrong, nil, At("again", Jmp("again")))
	answers(t, "the example", s, e, api.Sym{
		Name: "main", Bind: api.BindStrong, Kind: api.SymCode, Size: 8,
		Bytes: "\x28\x00\x00\x00\x00\x00\x00\x00",
		Rels:  []api.Rel{{Off: 4, Kind: api.RelWord, Name: "main"}},
	}, api.OK)
}

// P10.1: symbols of no line, of one, of several and of as many as there may be, byte by byte.
func TestBytes(t *testing.T) {
	makes(t, "no line", api.ErrArg)
	makes(t, "an empty list", api.ErrArg, []api.Line{}...)
	madeOf(t, "one line", "\x20\x0f\x00\x00\x02\x01\x00\x00", nil, Li(15, 258))
	madeOf(t, "several lines",
		"\x01\x21\x03\x00\x00\x00\x00\x00"+ // R
			"\x11\xa2\x00\x00\xff\xff\xff\xff"+ // I
			"\x20\x05\x00\x00\x00\x00\x00\x00"+ // La
			"\x22\x54\x00\x00\x04\x03\x02\x01"+ // Ld
			"\x23\x60\x07\x00\x00\x00\x00\x80"+ // St
			"\x21\x03\x00\x00\x00\x00\x00\x00"+ // LdAt
			"\x24\x00\x04\x00\x00\x00\x00\x00"+ // StAt
			"\x28\x00\x00\x00\x00\x00\x00\x00"+ // Jmp
			"\x2e\x10\x02\x00\x00\x00\x00\x00"+ // Br
			"\x29\x0f\x00\x00\x00\x00\x00\x00"+ // Call
			"\x2a\xf0\x00\x00\x00\x00\x00\x00"+ // Ret
			"\x32\x00\x00\x00\x01\x00\x00\x00", // Sys
		[]api.Rel{rel(2, "d", 7), rel(5, "e", most), rel(6, "f", 0), rel(7, "m", 80), rel(8, "m", 0), rel(9, "g", 0)},
		At("first", R(api.OpAdd, 1, 2, 3)), I(api.OpAddi, 2, 10, most), La(5, "d", 7), Ld(api.OpLw, 4, 5, 0x01020304), St(api.OpSb, 7, 6, 1<<31),
		LdAt(api.OpLb, 3, "e", most), StAt(api.OpSw, 4, "f", 0), Jmp("back"), Br(api.OpBgeu, 1, 2, "first"), Call("g"), At("back", Ret()), Sys(1))
	for _, n := range []int{2, 3, 31, 32, 33, 255, 256, 257, 1023, 1024} {
		makes(t, fmt.Sprint(n, " lines"), api.OK, numbered(n)...)
	}
}

// P10.1: more lines than there may be, whatever they are.
func TestTooMany(t *testing.T) {
	for _, n := range []int{1025, 1026, 2048, 1 << 16, 1<<16 + 1} {
		makes(t, fmt.Sprint(n, " lines"), api.ErrLong, numbered(n)...)
		makes(t, fmt.Sprint(n, " empty lines"), api.ErrLong, make([]api.Line, n)...)
	}
}

// P10.1, P10.3: a line that goes to one ahead, to one behind, to itself, to the first, to the last.
func TestTo(t *testing.T) {
	for n := 1; n <= 6; n++ {
		for from := range n {
			for to := range n {
				for _, op := range []uint8{api.OpJmp, api.OpLi, api.OpBeq} {
					l := numbered(n)
					l[from].X = api.Insn{Op: op, Imm: 77}
					l[from].To, l[to].Label = "x", "x"
					s, e := Make("m", api.BindLocal, nil, l...)
					if e != api.OK || !slices.Equal(s.Rels, []api.Rel{rel(uint32(from), "m", uint32(8*to))}) || s.Bytes[8*from:8*from+8] != string([]byte{op, 0, 0, 0, 0, 0, 0, 0}) {
						t.Errorf("line %d of %d goes to line %d by op %d: %s, %d", from, n, to, op, brief(s), e)
					}
					makes(t, "a line that goes to one", api.OK, l...)
				}
			}
		}
	}
}

// P10.1, P10.3: as many lines as there may be, each with a label, each going to one: the next, the one before, the other end.
func TestAllGo(t *testing.T) {
	const n = api.MaxLines
	for what, to := range map[string]func(int) int{
		"the next":  func(i int) int { return (i + 1) % n },
		"behind":    func(i int) int { return (i + n - 1) % n },
		"the other": func(i int) int { return n - 1 - i },
		"itself":    func(i int) int { return i },
		"the last":  func(int) int { return n - 1 },
	} {
		var l []api.Line
		var rels []api.Rel
		for i := range n {
			l = append(l, At(fmt.Sprint(i), Jmp(fmt.Sprint(to(i)))))
			rels = append(rels, rel(uint32(i), "m", uint32(8*to(i))))
		}
		madeOf(t, what, strings.Repeat("\x28\x00\x00\x00\x00\x00\x00\x00", n), rels, l...)
		makes(t, what+" and one more", api.ErrLong, append(l, Ret())...)
		l[n-1].To = "none"
		makes(t, what+" and nowhere", api.ErrNone, l...)
		l[n-1].To = ""
		l[n-1].Name = "none"
		makes(t, what+" and to a symbol", api.OK, l...)
		l[n-1].Label = "0"
		makes(t, what+" with a label twice", api.ErrHave, l...)
	}
}

// P10.1, P10.3: lines with the address of a symbol plus a number; also of the symbol itself, and of one that a label is named like.
func TestName(t *testing.T) {
	for _, name := range []string{"d", "m", "x", strings.Repeat("q", 32), "0._"} {
		for _, n := range []uint32{0, 1, 4, 8, 1 << 16, 1 << 31, most - 1, most} {
			madeOf(t, "a line with a name", "\x22\x21\x00\x00\x00\x00\x00\x00\x2a\xf0\x00\x00\x00\x00\x00\x00", []api.Rel{rel(0, name, n)},
				api.Line{Label: "y", X: api.Insn{Op: api.OpLw, D: 1, A: 2, Imm: n}, Name: name}, At("x", Ret()))
			madeOf(t, "the second line with a name", "\x2a\xf0\x00\x00\x00\x00\x00\x00\x20\x03\x00\x00\x00\x00\x00\x00", []api.Rel{rel(1, name, n)},
				Ret(), La(3, name, n))
		}
	}
	madeOf(t, "a label that is named like the symbol", "\x28\x00\x00\x00\x00\x00\x00\x00\x29\x0f\x00\x00\x00\x00\x00\x00",
		[]api.Rel{rel(0, "m", 8), rel(1, "m", 0)}, Jmp("m"), At("m", Call("m")))
}

// P10.1: each op, with registers up to their edge and beyond it, with any number, with a To, a Name, both or none.
func TestEachOp(t *testing.T) {
	count := map[api.Errno]int{}
	for op := range 256 {
		for _, r := range []api.Insn{{}, {D: 1}, {A: 1}, {B: 1}, {D: 15, A: 15}, {A: 15, B: 15}, {D: 15, A: 15, B: 15}, {D: 16}, {A: 16}, {B: 16}, {D: 255}, {A: 255}, {B: 255}} {
			for _, n := range []uint32{0, 1, 8, most} {
				r.Op, r.Imm = uint8(op), n
				for _, l := range []api.Line{{X: r}, {X: r, To: "x"}, {X: r, Name: "d"}, {X: r, To: "x", Name: "d"}} {
					count[agrees(t, "each op", "m", api.BindWeak, nil, l, At("x", Ret()))]++
					count[agrees(t, "each op, at the end", "m", api.BindWeak, nil, At("x", Ret()), l)]++
				}
			}
		}
	}
	if count[api.OK] < 1000 || count[api.ErrArg] < 1000 {
		t.Errorf("too few of one sort: %v", count)
	}
}

// P10.1: which ops may have a To or a Name: those that use a number, which is 0 then, whatever it was.
func TestUsesNumber(t *testing.T) {
	with := []uint8{
		api.OpAddi, api.OpMuli, api.OpAndi, api.OpOri, api.OpXori, api.OpShli, api.OpShri, api.OpSltui, api.OpSeqi,
		api.OpLi, api.OpLb, api.OpLw, api.OpSb, api.OpSw, api.OpJmp, api.OpJal, api.OpBeq, api.OpBne, api.OpBltu, api.OpBgeu, api.OpSys,
	}
	for op := range 256 {
		want := api.ErrArg
		if slices.Contains(with, uint8(op)) {
			want = api.OK
		}
		for _, n := range []uint32{0, 1, most} {
			x := api.Insn{Op: uint8(op), Imm: n}
			makes(t, fmt.Sprint("op ", op, " with a To"), want, api.Line{X: x, To: "x"}, At("x", Ret()))
			makes(t, fmt.Sprint("op ", op, " with a Name"), want, Ret(), api.Line{X: x, Name: "d"})
			makes(t, fmt.Sprint("op ", op, " with both"), api.ErrArg, At("x", Ret()), api.Line{X: x, To: "x", Name: "d"})
		}
	}
	for _, x := range []api.Insn{{Op: api.OpAdd, D: 1, A: 2, B: 3, Imm: 8}, {Op: api.OpJr, A: 15, Imm: 8}} {
		makes(t, "a number that is not used", api.ErrArg, api.Line{X: x})
		makes(t, "a number that counts as 0 for a To", api.ErrArg, api.Line{X: x, To: "x", Label: "x"})
		makes(t, "a number that counts as 0 for a Name", api.ErrArg, api.Line{X: x, Name: "d"})
		x.Imm = 0
		makes(t, "the number 0", api.OK, api.Line{X: x})
	}
}

// P10.1: what may be a Label, a To, a Name: names, and nothing; and what may be the symbol's name.
func TestNames(t *testing.T) {
	names := []string{"\x00", " ", "a b", "ab ", "\n", "a\n", "ä", "\xff", "A", "aZ", "a-b", "a/b", "`", "{", ":", "a,b", "@"}
	for _, n := range []int{33, 34, 64, 255, 256, 257, 288, 289, 1<<16 + 1, 1 << 20} {
		names = append(names, strings.Repeat("a", n))
	}
	for c := range 256 {
		names = append(names, string([]byte{byte(c)}), string([]byte{'a', byte(c)}), string([]byte{byte(c), '.', 'a'}))
	}
	for _, n := range []int{1, 2, 31, 32} {
		names = append(names, strings.Repeat("_", n))
	}
	for _, name := range names {
		want := api.OK
		if !nameForm.MatchString(name) {
			want = api.ErrArg
		}
		what := fmt.Sprintf("%.50q of %d bytes", name, len(name))
		makes(t, what+" as a Label", want, Ret(), At(name, Ret()))
		makes(t, what+" as a To and a Label", want, Ret(), Jmp(name), At(name, Ret()))
		makes(t, what+" as a Name", want, Ret(), Call(name))
		makes(t, what+" as a Name with a Label", want, At("x", La(1, name, 8)), Ret())
		if want == api.OK {
			want = api.ErrNone
		}
		makes(t, what+" as a To alone", want, Ret(), Jmp(name))
		for _, l := range [][]api.Line{{Ret()}, {At("x", Jmp("x"))}} {
			if e := agrees(t, what+" as the symbol's name", name, api.BindWeak, nil, l...); (e == api.OK) != nameForm.MatchString(name) {
				t.Errorf("%s as the symbol's name: %d", what, e)
			}
		}
	}
	if e := agrees(t, "no name", "", api.BindWeak, nil, Ret()); e != api.ErrArg {
		t.Errorf("no name: %d", e)
	}
}

// P10.1: two lines with the same label, anywhere; and any number of them without one.
func TestSameLabel(t *testing.T) {
	for n := 2; n <= 6; n++ {
		for i := range n {
			for j := range i {
				l := numbered(n)
				l[i].Label, l[j].Label = "x", "x"
				makes(t, "one label twice", api.ErrHave, l...)
				l[j].To = "x"
				makes(t, "one label twice, asked for", api.ErrHave, l...)
				l[i].Label = "y"
				makes(t, "two labels", api.OK, l...)
				l[i].Label, l[j].Label, l[j].To = "", "", ""
				makes(t, "no labels", api.OK, l...)
				l[i].Label, l[j].Label = "x", "x."
				makes(t, "labels that begin alike", api.OK, l...)
			}
		}
	}
	makes(t, "the same line twice", api.ErrHave, At("x", Jmp("x")), At("x", Jmp("x")))
}

// P10.1: a To that is no line's label, at any line: also not if a Name is so, or the symbol's name.
func TestNoLabel(t *testing.T) {
	for n := 1; n <= 5; n++ {
		for i := range n {
			for _, to := range []string{"x", "m", "y", "d", "l1.", "l", "0"} {
				l := numbered(n)
				for j := range l {
					l[j].Label = fmt.Sprint("l", j)
				}
				l[(i+1)%n].Name = "d"
				l[i].Name, l[i].To = "", to
				makes(t, fmt.Sprintf("To %q", to), api.ErrNone, l...)
				l[i].To = fmt.Sprint("l", n-1)
				makes(t, "a To that is", api.OK, l...)
			}
		}
	}
}

// notesOf: n notes.
func notesOf(n int) []api.Note {
	var l []api.Note
	for i := range n {
		l = append(l, api.Note{Kind: api.NotePort, N: uint32(i + 1)})
	}
	return l
}

// someNotes: lists of notes that a symbol may have, and that it may not.
func someNotes() (may, mayNot [][]api.Note) {
	may = [][]api.Note{nil, {}, notesOf(1), notesOf(7), notesOf(8),
		{{Kind: api.NoteConsole}, {Kind: api.NoteConsole}},
		{{Kind: api.NotePages, N: 1024}, {Kind: api.NotePages}, {Kind: api.NoteExtent, N: 15, M: 1024}, {Kind: api.NoteExtent, M: 1}, {Kind: api.NotePort, N: 65535}},
	}
	mayNot = [][]api.Note{notesOf(9), notesOf(10), notesOf(264), notesOf(65537), {{}}, {{Kind: 5}},
		{{Kind: api.NotePages, N: 1025}}, {{Kind: api.NotePages, M: 1}}, {{Kind: api.NoteExtent}}, {{Kind: api.NoteExtent, N: 16, M: 1}},
		{{Kind: api.NoteConsole}, {Kind: api.NotePort}}, {{Kind: api.NotePort, N: 65536}, {Kind: api.NoteConsole}}, {{Kind: api.NoteConsole, N: 1}},
	}
	return may, mayNot
}

// P10.1: the symbol of the lines is not valid: its bind, its notes; with all that may be.
func TestSymbol(t *testing.T) {
	l := []api.Line{At("x", Jmp("x")), Ret()}
	for bind := range 256 {
		if e := agrees(t, "each bind", "m", uint8(bind), notesOf(2), l...); (e == api.OK) != (bind < 3) {
			t.Errorf("bind %d: %d", bind, e)
		}
	}
	may, mayNot := someNotes()
	for _, notes := range may {
		if e := agrees(t, "notes", "m", api.BindLocal, notes, l...); e != api.OK {
			t.Errorf("notes %s: %d", brief(notes), e)
		}
		if e := agrees(t, "notes without lines", "m", api.BindLocal, notes); e != api.ErrArg {
			t.Errorf("notes %s without lines: %d", brief(notes), e)
		}
	}
	for _, notes := range mayNot {
		if e := agrees(t, "wrong notes", "m", api.BindLocal, notes, l...); e != api.ErrArg {
			t.Errorf("notes %s: %d", brief(notes), e)
		}
	}
}

// P10.1: which error comes first, for each set of faults, wherever the lines with them stand.
func TestFirstError(t *testing.T) {
	random := rand.New(rand.NewSource(11))
	for set := range 1 << 7 {
		for range 20 {
			l := []api.Line{At("a", Li(1, 2)), At("b", Jmp("a")), Ret()}
			name, bind, notes, want := "m", uint8(api.BindWeak), notesOf(1), api.OK
			has := func(fault int, e api.Errno) bool {
				if set>>fault&1 == 0 {
					return false
				}
				want = e
				return true
			}
			if has(0, api.ErrArg) {
				name = "M"
			}
			if has(1, api.ErrArg) {
				bind = 3
			}
			if has(2, api.ErrArg) {
				notes = notesOf(9)
			}
			if has(3, api.ErrNone) {
				l = append(l, Jmp("none"))
			}
			if has(4, api.ErrHave) {
				l = append(l, At("a", Ret()))
			}
			if has(5, api.ErrArg) {
				l = append(l, anyOf(random, api.Line{}, Jmp("A"), Call("A"), At("A", Ret()), R(api.OpAdd, 16, 0, 0), api.Line{X: Ret().X, Name: "d"}, api.Line{X: Sys(1).X, To: "a", Name: "d"}))
			}
			random.Shuffle(len(l), func(i, j int) { l[i], l[j] = l[j], l[i] })
			if has(6, api.ErrLong) {
				l = slices.Concat(l, make([]api.Line, 1025-len(l)))
			}
			if e := agrees(t, "faults", name, bind, notes, l...); e != want {
				t.Fatalf("faults %b: %d; want %d", set, e, want)
			}
		}
	}
}

// datas: that Data answers the symbol with those parts, or ErrArg and nothing, and leaves the notes as they are.
func datas(t *testing.T, s api.Sym) {
	t.Helper()
	was := slices.Clone(s.Notes)
	want, wantE := s, api.OK
	if s.Kind == api.SymCode || !validSym(s) {
		want, wantE = api.Sym{}, api.ErrArg
	}
	got, e := Data(s.Name, s.Bind, s.Kind, s.Size, s.Bytes, s.Notes...)
	answers(t, "Data of "+brief(s), got, e, want, wantE)
	if !slices.Equal(s.Notes, was) {
		t.Fatal("Data changed its notes")
	}
}

// P10.1: Data, byte by byte, and of each kind and each bind.
func TestData(t *testing.T) {
	s, e := Data("d", api.BindLocal, api.SymData, 5, "ab\x00", api.Note{Kind: api.NotePages, N: 3})
	answers(t, "data", s, e, api.Sym{Name: "d", Bind: api.BindLocal, Kind: api.SymData, Size: 5, Bytes: "ab\x00", Notes: []api.Note{{Kind: api.NotePages, N: 3}}}, api.OK)
	s, e = Data("c", api.BindWeak, api.SymConst, 1, "")
	answers(t, "constants", s, e, api.Sym{Name: "c", Bind: api.BindWeak, Kind: api.SymConst, Size: 1}, api.OK)
	s, e = Data("c", api.BindStrong, api.SymCode, 8, "\x2a\xf0\x00\x00\x00\x00\x00\x00")
	answers(t, "code", s, e, api.Sym{}, api.ErrArg)
	for v := range 256 {
		datas(t, api.Sym{Name: "d", Bind: api.BindStrong, Kind: uint8(v), Size: 8, Bytes: "12345678"})
		datas(t, api.Sym{Name: "d", Bind: uint8(v), Kind: api.SymData, Size: 8, Bytes: "12345678"})
		datas(t, api.Sym{Name: string([]byte{byte(v)}), Kind: api.SymConst, Size: 8})
	}
}

// P10.1: Data with sizes, bytes, names and notes at their edges and beyond.
func TestDataEdges(t *testing.T) {
	may, mayNot := someNotes()
	for _, kind := range []uint8{api.SymData, api.SymConst} {
		for _, size := range []uint32{0, 1, 2, 7, 8, 9, 255, 256, 257, 8191, 8192, 8193, 1 << 16, 1<<16 + 8, most - 1, most} {
			for _, n := range []int{0, 1, 2, 7, 8, 9, 255, 256, 257, 8191, 8192, 8193, 1 << 16, 1<<16 + 1} {
				datas(t, api.Sym{Name: "d", Kind: kind, Size: size, Bytes: strings.Repeat("\xff", n)})
			}
		}
		for _, notes := range slices.Concat(may, mayNot) {
			datas(t, api.Sym{Name: "d", Kind: kind, Size: 1, Notes: notes})
		}
		for _, name := range []string{"", "a", "A", "a b", "ä", "0._", strings.Repeat("a", 31), strings.Repeat("a", 32), strings.Repeat("a", 33), strings.Repeat("a", 1<<16+1)} {
			datas(t, api.Sym{Name: name, Kind: kind, Size: 1})
		}
	}
	if _, e := Data("d", api.BindLocal, api.SymData, 1, "", notesOf(8)...); e != api.OK {
		t.Errorf("8 notes: %d", e)
	}
	if _, e := Data("d", api.BindLocal, api.SymData, 1, "", notesOf(9)...); e != api.ErrArg {
		t.Errorf("9 notes: %d", e)
	}
}

// P10.2: each constructor, field by field, whatever it is passed.
func TestConstructors(t *testing.T) {
	bytes := []uint8{0, 1, 14, 15, 16, 255}
	for _, op := range []uint8{0, api.OpAdd, 15, api.OpAddi, api.OpLi, api.OpLw, api.OpSw, api.OpJmp, api.OpJal, api.OpJr, api.OpBne, api.OpSys, 255} {
		for _, x := range bytes {
			for _, y := range bytes {
				for _, z := range bytes {
					line(t, "R", R(op, x, y, z), api.Line{X: api.Insn{Op: op, D: x, A: y, B: z}})
				}
				for _, n := range []uint32{0, 1, 8, 258, 1 << 31, most} {
					numbers(t, op, x, y, n)
				}
			}
		}
	}
	line(t, "Ret", Ret(), api.Line{X: api.Insn{Op: 42, A: 15}})
	if api.RegBack != 15 || api.OpJr != 42 || api.OpJal != 41 || api.OpJmp != 40 || api.OpLi != 32 || api.OpSys != 50 {
		t.Error("the numbers of package api are others")
	}
}

// line: that a line is that one.
func line(t *testing.T, what string, got, want api.Line) {
	t.Helper()
	if got != want {
		t.Fatalf("%s: %s; want %s", what, brief(got), brief(want))
	}
}

// numbers: the constructors that take numbers, with names that are some, and none, and great.
func numbers(t *testing.T, op, x, y uint8, n uint32) {
	t.Helper()
	line(t, "I", I(op, x, y, n), api.Line{X: api.Insn{Op: op, D: x, A: y, Imm: n}})
	line(t, "Li", Li(x, n), api.Line{X: api.Insn{Op: 32, D: x, Imm: n}})
	line(t, "Ld", Ld(op, x, y, n), api.Line{X: api.Insn{Op: op, D: x, A: y, Imm: n}})
	line(t, "St", St(op, x, y, n), api.Line{X: api.Insn{Op: op, A: y, B: x, Imm: n}})
	line(t, "Sys", Sys(n), api.Line{X: api.Insn{Op: 50, Imm: n}})
	for _, s := range []string{"d", "", "No name", strings.Repeat("q", 32), strings.Repeat("q", 33)} {
		line(t, "La", La(x, s, n), api.Line{X: api.Insn{Op: 32, D: x, Imm: n}, Name: s})
		line(t, "LdAt", LdAt(op, x, s, n), api.Line{X: api.Insn{Op: op, D: x, Imm: n}, Name: s})
		line(t, "StAt", StAt(op, x, s, n), api.Line{X: api.Insn{Op: op, B: x, Imm: n}, Name: s})
		line(t, "Jmp", Jmp(s), api.Line{X: api.Insn{Op: 40}, To: s})
		line(t, "Br", Br(op, x, y, s), api.Line{X: api.Insn{Op: op, A: x, B: y}, To: s})
		line(t, "Call", Call(s), api.Line{X: api.Insn{Op: 41, D: 15}, Name: s})
	}
}

// P10.2: At of lines, whatever they have: all but the label stays, and a label that is there already goes.
func TestAt(t *testing.T) {
	all := api.Line{Label: "old", X: api.Insn{Op: 255, D: 16, A: 17, B: 18, Imm: most}, To: "t", Name: "No name"}
	for _, x := range []api.Line{{}, all, Ret(), Jmp("t"), La(1, "n", 2), At("old", Sys(3))} {
		for _, label := range []string{"", "new", "old", "No name", strings.Repeat("l", 33)} {
			want := x
			want.Label = label
			line(t, "At", At(label, x), want)
			line(t, "At twice", At(label, At("between", x)), want)
		}
	}
	makes(t, "a label that is gone", api.ErrNone, At("new", At("old", Jmp("old"))))
	makes(t, "a label that came", api.OK, At("new", At("old", Jmp("new"))))
}

// P10.2: Join of no list, of one, of several, of empty and nil ones, in order; also of lines that are not valid.
func TestJoin(t *testing.T) {
	a, b, c := []api.Line{At("a", Jmp("b")), Ret()}, []api.Line{La(1, "d", 2)}, []api.Line{{}, {Label: "A", To: "B", Name: "C", X: api.Insn{Op: 255}}, Sys(3)}
	none := []api.Line{}
	for _, l := range [][][]api.Line{
		nil, {}, {nil}, {none}, {nil, none, nil}, {a}, {b}, {c}, {a, b, c}, {c, b, a}, {a, a, a}, {nil, a, none, b, nil}, {numbered(1024), a, numbered(1025)},
	} {
		var want []api.Line
		var was [][]api.Line
		for _, x := range l {
			want = append(want, x...)
			was = append(was, slices.Clone(x))
		}
		if got := Join(l...); !slices.Equal(got, want) {
			t.Errorf("Join of %s: %s; want %s", brief(l), brief(got), brief(want))
		}
		if !slices.EqualFunc(l, was, slices.Equal[[]api.Line]) {
			t.Errorf("Join changed %s", brief(l))
		}
	}
	if got := Join(); len(got) != 0 {
		t.Errorf("Join(): %v", got)
	}
	makes(t, "joined lists", api.OK, Join(a, []api.Line{At("b", Ret())}, numbered(3))...)
}

// run: what stands in register 1, when the lines, placed at that address with a subroutine and data behind them, call the system.
func run(t *testing.T, from uint32, l, callee []api.Line, data string) uint32 {
	t.Helper()
	main, e1 := Make("main", api.BindStrong, nil, l...)
	sub, e2 := Make("sub", api.BindLocal, nil, callee...)
	list, e3 := Data("list", api.BindLocal, api.SymData, 8192, data)
	if e1 != api.OK || e2 != api.OK || e3 != api.OK {
		t.Fatal(e1, e2, e3)
	}
	at := map[string]uint32{"main": from, "sub": from + 512, "list": from + 1024}
	m := space.New()
	for page := from; page < from+4096; page += api.PageSize {
		m.Map(page, api.PermR+api.PermW+api.PermX)
	}
	for _, s := range []api.Sym{main, sub, list} {
		m.Set(at[s.Name], s.Bytes)
		for _, r := range s.Rels {
			n := at[r.Name] + r.Add
			m.Set(at[s.Name]+r.Off, string([]byte{byte(n), byte(n >> 8), byte(n >> 16), byte(n >> 24)}))
		}
	}
	c := cpu.New(from)
	if stop, _ := c.Run(m, 10000); stop.Kind != api.StopSys || stop.Num != 9 {
		t.Fatal(stop, c.Pc())
	}
	v, _ := c.Reg(1)
	return v
}

// P10.3: lines are done as they say, wherever they are placed: a loop that adds up bytes, a subroutine, data by address.
func TestRuns(t *testing.T) {
	l := Join(
		[]api.Line{Li(1, 0), Li(2, 0), LdAt(api.OpLb, 5, "list", 0)},
		[]api.Line{At("again", Br(api.OpBeq, 2, 5, "done"))},
		[]api.Line{La(3, "list", 1), R(api.OpAdd, 3, 3, 2), Ld(api.OpLb, 4, 3, 0), Call("sub"), I(api.OpAddi, 2, 2, 1), Jmp("again")},
		[]api.Line{At("done", StAt(api.OpSw, 1, "list", 100)), Li(1, 0), La(6, "list", 96), Ld(api.OpLw, 1, 6, 4), Sys(9)},
	)
	double := []api.Line{R(api.OpAdd, 4, 4, 4), At("add", R(api.OpAdd, 1, 1, 4)), St(api.OpSb, 1, 3, 0), Ret()}
	for _, from := range []uint32{256, 1 << 16, 1<<20 - 4096} {
		if got := run(t, from, l, double, "\x04\x01\x05\x07\x64"); got != 2*(1+5+7+100) {
			t.Errorf("from %d on: %d", from, got)
		}
		if got := run(t, from, l, double, ""); got != 0 {
			t.Errorf("from %d on, of no bytes: %d", from, got)
		}
	}
}

// roomy: the list, with room behind it in which something stands.
func roomy[T any](l []T) (list, all []T) {
	all = append(slices.Clone(l), l...)
	return all[:len(l)], all
}

// P10.1, P10.2: what is passed is as it was (R5), also behind the lists' ends, whether it is valid or not.
func TestPassedUnchanged(t *testing.T) {
	for _, bind := range []uint8{api.BindLocal, 3} {
		for _, l := range [][]api.Line{{At("x", Jmp("x")), La(1, "d", 2), Ret()}, {Jmp("x"), Ret()}, {At("x", Ret()), At("x", Ret())}, {Call("A")}} {
			notes, allNotes := roomy(notesOf(3))
			lines, allLines := roomy(l)
			wasNotes, wasLines := slices.Clone(allNotes), slices.Clone(allLines)
			for range 2 {
				Make("m", bind, notes, lines...)
				Data("d", bind, api.SymData, 8, "12345678", notes...)
				Join(lines, lines[:1], lines)
				At("y", lines[0])
			}
			if !slices.Equal(allNotes, wasNotes) || !slices.Equal(allLines, wasLines) {
				t.Errorf("what was passed is changed: %v, %v", allNotes, allLines)
			}
		}
	}
}

// fill: other elements in all of the list, also behind its end.
func fill[T any](l []T, with T) {
	l = l[:cap(l)]
	for i := range l {
		l[i] = with
	}
}

// P10.1, P10.2: what is answered is new (R5): filled with other values, it changes neither what was passed nor another answer; and what was passed, filled, changes no answer.
func TestAnsweredNew(t *testing.T) {
	notes, l := notesOf(4), []api.Line{At("x", Jmp("x")), La(1, "d", 2)}
	wasNotes, wasLines := slices.Clone(notes), slices.Clone(l)
	want := symOf("m", api.BindLocal, wasNotes, wasLines)
	data := api.Sym{Name: "d", Kind: api.SymConst, Size: 9, Bytes: "1234", Notes: wasNotes}
	kept, _ := Make("m", api.BindLocal, notes, l...)
	keptData, _ := Data("d", api.BindLocal, api.SymConst, 9, "1234", notes...)
	keptLines := Join(l)
	for range 2 {
		s, _ := Make("m", api.BindLocal, notes, l...)
		d, _ := Data("d", api.BindLocal, api.SymConst, 9, "1234", notes...)
		fill(s.Rels, api.Rel{Kind: 9})
		fill(s.Notes, api.Note{Kind: 9})
		fill(d.Notes, api.Note{Kind: 8})
		fill(Join(l), api.Line{Label: "filled"})
		fill(Join(l, nil), api.Line{Label: "filled"})
		if !slices.Equal(notes, wasNotes) || !slices.Equal(l, wasLines) {
			t.Fatalf("an answer is memory of what was passed: %v, %v", notes, l)
		}
	}
	fill(notes, api.Note{Kind: 7})
	fill(l, api.Line{Label: "passed"})
	if !equal(kept, want) || !equal(keptData, data) || !slices.Equal(keptLines, wasLines) {
		t.Errorf("an answer is changed: %s, %s, %s", brief(kept), brief(keptData), brief(keptLines))
	}
	if s, e := Make("m", api.BindLocal, wasNotes, wasLines...); e != api.OK || !equal(s, want) {
		t.Errorf("the same lines, another symbol: %s, %d", brief(s), e)
	}
}

// lies: whether a text's memory begins in another one's.
func lies(text, in string) bool {
	if text == "" {
		return false
	}
	from, at := uintptr(unsafe.Pointer(unsafe.StringData(in))), uintptr(unsafe.Pointer(unsafe.StringData(text)))
	return at >= from && at < from+uintptr(len(in))
}

// P10.1, P10.2: the texts of what is answered are memory of their own (R5).
func TestOwnMemory(t *testing.T) {
	great := strings.Repeat("abcdefgh", 100)
	piece := func(i int) string { return great[20*i : 20*i+20] }
	l := []api.Line{
		{Label: piece(0), X: Sys(1).X, To: piece(1)}, {Label: piece(1), X: Sys(1).X, Name: piece(2)}, La(1, piece(3), 0), LdAt(1, 2, piece(4), 0), StAt(1, 2, piece(5), 0),
		Jmp(piece(6)), Br(1, 2, 3, piece(7)), Call(piece(8)), At(piece(9), api.Line{To: piece(1), Name: piece(2)}),
	}
	for i, x := range Join(l[2:], Join(l)) {
		if lies(x.Label, great) || lies(x.To, great) || lies(x.Name, great) {
			t.Errorf("the texts of line %d, joined, are what was passed", i)
		}
	}
	for i, x := range l[2:] {
		if lies(x.Label, great) || lies(x.To, great) || lies(x.Name, great) {
			t.Errorf("the texts of line %d are what was passed", i+2)
		}
	}
	s, e := Make(piece(9), api.BindLocal, nil, At("abcdefgh", Ret()), l[1], api.Line{X: Jmp("").X, To: "abcdefgh"})
	d, e2 := Data(piece(8), api.BindLocal, api.SymData, 300, great[:300])
	if e != api.OK || e2 != api.OK || lies(s.Name, great) || lies(d.Name, great) || lies(d.Bytes, great) {
		t.Errorf("the texts of a symbol are what was passed: %s, %s, %d, %d", brief(s), brief(d), e, e2)
	}
	for _, r := range s.Rels {
		if lies(r.Name, great) {
			t.Errorf("the name of %v is what was passed", r)
		}
	}
}

// P10.1, P10.2: lists that are nil and lists that are empty are the same (R4).
func TestNil(t *testing.T) {
	for _, notes := range [][]api.Note{nil, {}} {
		s, e := Make("m", api.BindStrong, notes, Ret())
		answers(t, "no notes", s, e, api.Sym{Name: "m", Bind: api.BindStrong, Kind: api.SymCode, Size: 8, Bytes: "\x2a\xf0\x00\x00\x00\x00\x00\x00"}, api.OK)
		s, e = Data("d", api.BindStrong, api.SymData, 1, "", notes...)
		answers(t, "data without notes", s, e, api.Sym{Name: "d", Bind: api.BindStrong, Kind: api.SymData, Size: 1}, api.OK)
		for _, lines := range [][]api.Line{nil, {}} {
			s, e = Make("m", api.BindStrong, notes, lines...)
			answers(t, "no lines", s, e, api.Sym{}, api.ErrArg)
		}
	}
}
