package asm

import (
	"encoding/binary"
	"fmt"
	"math/rand"
	"reflect"
	"regexp"
	"slices"
	"strings"
	"testing"

	"aedicule/api"
	"aedicule/insn"
	"aedicule/obj"
)

const most = 1<<32 - 1

var nameForm = regexp.MustCompile(`\A[a-z0-9._]{1,32}\z`)

// addressed: whether a symbol's or a label's address is the line's number.
func addressed(l api.Line) bool { return l.To+l.Name != "" }

// validLine: whether the line is valid, by the chapter. An instruction that is valid with the number 1 is so with any, and uses it.
func validLine(l api.Line) bool {
	for _, s := range []string{l.Label, l.To, l.Name} {
		if s != "" && !nameForm.MatchString(s) {
			return false
		}
	}
	x := l.X
	if addressed(l) {
		x.Imm = 1
	}
	return insn.Check(x) == api.OK && (l.To == "" || l.Name == "")
}

// validSym: whether a symbol with those parts is valid, by layer 8, as far as its relocations are not looked at.
func validSym(s api.Sym) bool {
	for _, n := range s.Notes {
		if obj.Note(n) != api.OK {
			return false
		}
	}
	n := uint32(len(s.Bytes))
	switch {
	case !nameForm.MatchString(s.Name), s.Bind > 2, len(s.Notes) > 8, s.Size == 0, s.Size > 8192, n > s.Size:
		return false
	case s.Kind == 1:
		return n == s.Size && n%8 == 0
	}
	return s.Kind == 2 || s.Kind == 3
}

// bytesOf: an instruction's eight bytes, with that number.
func bytesOf(x api.Insn, n uint32) string {
	return string(binary.LittleEndian.AppendUint32([]byte{x.Op, x.D | x.A<<4, x.B, 0}, n))
}

// lineOf: which line has the label; -1, if none has.
func lineOf(l []api.Line, label string) int {
	return slices.IndexFunc(l, func(x api.Line) bool { return x.Label == label })
}

// symOf: the symbol of lines of which each is valid, and each To the label of one.
func symOf(name string, bind uint8, notes []api.Note, l []api.Line) api.Sym {
	s := api.Sym{Name: name, Bind: bind, Kind: 1, Size: uint32(8 * len(l)), Notes: notes}
	for i, x := range l {
		switch r := (api.Rel{Off: uint32(8*i + 4), Kind: 1}); {
		case x.To != "":
			r.Name, r.Add = name, uint32(8*lineOf(l, x.To))
			s.Rels = append(s.Rels, r)
		case x.Name != "":
			r.Name, r.Add = x.Name, x.X.Imm
			s.Rels = append(s.Rels, r)
		}
		if addressed(x) {
			s.Bytes += bytesOf(x.X, 0)
		} else {
			s.Bytes += bytesOf(x.X, x.X.Imm)
		}
	}
	return s
}

// twice: whether two lines have the same label.
func twice(l []api.Line) bool {
	count := map[string]int{}
	for _, x := range l {
		count[x.Label]++
	}
	for label, n := range count {
		if label != "" && n > 1 {
			return true
		}
	}
	return false
}

// lost: whether a line refers to a label that none has.
func lost(l []api.Line) bool {
	return slices.ContainsFunc(l, func(x api.Line) bool { return x.To != "" && lineOf(l, x.To) < 0 })
}

// modelMake: what Make answers, by the chapter.
func modelMake(name string, bind uint8, notes []api.Note, l []api.Line) (api.Sym, api.Errno) {
	e := api.OK
	switch {
	case len(l) > 1024:
		e = api.ErrLong
	case slices.ContainsFunc(l, func(x api.Line) bool { return !validLine(x) }):
		e = api.ErrArg
	case twice(l):
		e = api.ErrHave
	case lost(l):
		e = api.ErrNone
	}
	if e != api.OK {
		return api.Sym{}, e
	}
	s := symOf(name, bind, notes, l)
	if !validSym(s) {
		return api.Sym{}, api.ErrArg
	}
	return s, api.OK
}

// copyOf: an equal symbol that shares no list; its lists that are empty are nil.
func copyOf(s api.Sym) api.Sym {
	s.Rels = append([]api.Rel(nil), s.Rels...)
	s.Notes = append([]api.Note(nil), s.Notes...)
	return s
}

// equal: whether two symbols are the same; lists that are nil and lists that are empty are (R4).
func equal(a, b api.Sym) bool { return reflect.DeepEqual(copyOf(a), copyOf(b)) }

// brief: the beginning of what is told of anything.
func brief(v any) string { return fmt.Sprintf("%.300s", fmt.Sprintf("%q", fmt.Sprint(v))) }

// answers: that what is answered is that symbol and OK, or nothing and that error.
func answers(t *testing.T, what string, s api.Sym, e api.Errno, want api.Sym, wantE api.Errno) {
	t.Helper()
	if e != wantE || !equal(s, want) {
		t.Fatalf("%s: %s, %d; want %s, %d", what, brief(s), e, brief(want), wantE)
	}
	if e == api.OK && obj.Sym(s) != api.OK {
		t.Fatalf("%s: %s is no valid symbol", what, brief(s))
	}
}

// agrees: that Make answers what the model does, and leaves the lines and the notes as they are; its error.
func agrees(t *testing.T, what, name string, bind uint8, notes []api.Note, l ...api.Line) api.Errno {
	t.Helper()
	wasNotes, wasLines := slices.Clone(notes), slices.Clone(l)
	want, wantE := modelMake(name, bind, notes, l)
	s, e := Make(name, bind, notes, l...)
	answers(t, what+": Make of "+brief(l[:min(len(l), 20)]), s, e, want, wantE)
	if !slices.Equal(notes, wasNotes) || !slices.Equal(l, wasLines) {
		t.Fatalf("%s: Make changed what it was passed", what)
	}
	if e == api.OK {
		placed(t, what, s, l)
	}
	return e
}

// at: an address for each name, by a rule.
func at(name string) uint32 {
	v := uint32(256)
	for _, c := range []byte(name) {
		v = v*8191 + 8*uint32(c)
	}
	return v
}

// placed: that the symbol of the lines, at an address and with its relocations filled in, has each line's instruction, with the address of the To's line, or of the Name's symbol plus the number (P10.3).
func placed(t *testing.T, what string, s api.Sym, l []api.Line) {
	t.Helper()
	b := []byte(s.Bytes)
	for _, r := range s.Rels {
		binary.LittleEndian.PutUint32(b[r.Off:], at(r.Name)+r.Add)
	}
	if len(b) != 8*len(l) {
		t.Fatalf("%s: %d bytes of %d lines", what, len(b), len(l))
	}
	for i, x := range l {
		want := x.X
		switch {
		case x.To != "":
			want.Imm = at(s.Name) + uint32(8*lineOf(l, x.To))
		case x.Name != "":
			want.Imm += at(x.Name)
		}
		if got, e := insn.Decode(string(b[8*i : 8*i+8])); got != want || e != api.OK {
			t.Fatalf("%s: line %d of %s, placed: %v, %d; want %v", what, i, brief(l), got, e, want)
		}
	}
}

// anyOf: one of the elements.
func anyOf[T any](random *rand.Rand, l ...T) T { return l[random.Intn(len(l))] }

func anyName(random *rand.Rand) string {
	return anyOf(random, "main", "a", "a.b", "a_b", "_", ".", "0", "9", "z", strings.Repeat("q", 32))
}

func anyNote(random *rand.Rand) api.Note {
	return anyOf(random,
		api.Note{Kind: api.NotePages, N: uint32(random.Intn(1025))},
		api.Note{Kind: api.NoteExtent, N: uint32(random.Intn(16)), M: uint32(1 + random.Intn(1024))},
		api.Note{Kind: api.NotePort, N: uint32(1 + random.Intn(65535))},
		api.Note{Kind: api.NoteConsole})
}

func anyNotes(random *rand.Rand) []api.Note {
	var l []api.Note
	for range random.Intn(9) {
		l = append(l, anyNote(random))
	}
	return l
}

// anyInsn: an instruction that is valid.
func anyInsn(random *rand.Rand) api.Insn {
	for {
		x := api.Insn{Op: uint8(random.Intn(51)), D: anyOf[uint8](random, 0, 0, 1, 15), A: anyOf[uint8](random, 0, 0, 7, 15), B: anyOf[uint8](random, 0, 0, 9, 15)}
		x.Imm = anyOf(random, 0, 1, 258, 1<<31, most, random.Uint32())
		if insn.Check(x) == api.OK {
			return x
		}
	}
}

// anyLines: lines that a symbol may have, whose labels are names and numbers.
func anyLines(random *rand.Rand) []api.Line {
	l := make([]api.Line, random.Intn(12))
	var labels []string
	for i := range l {
		if random.Intn(2) == 0 {
			l[i].Label = fmt.Sprintf("%.30s%d", anyName(random), i)
			labels = append(labels, l[i].Label)
		}
	}
	for i := range l {
		l[i].X = anyInsn(random)
		x := l[i].X
		x.Imm = 1
		if insn.Check(x) != api.OK {
			continue
		}
		switch kind := random.Intn(3); {
		case kind == 0 && len(labels) > 0:
			l[i].To = anyOf(random, labels...)
		case kind == 1:
			l[i].Name = anyName(random)
		}
	}
	return l
}

// spoil: another value somewhere in the lines: one that may be there, or one that may not.
func spoil(random *rand.Rand, l []api.Line) {
	if len(l) == 0 {
		return
	}
	x := &l[random.Intn(len(l))]
	switch random.Intn(7) {
	case 0:
		x.Label = anyOf(random, l[0].Label, "b", "B", strings.Repeat("q", 33))
	case 1:
		x.To = anyOf(random, "", "none", l[len(l)-1].Label, "b b")
	case 2:
		x.Name = anyOf(random, "", "n", "N", strings.Repeat("n", 33))
	case 3:
		x.X.Op = uint8(random.Intn(256))
	case 4:
		x.X.D, x.X.A = anyOf[uint8](random, 0, 1, 16), anyOf[uint8](random, 0, 1, 16)
	case 5:
		x.X.B = anyOf[uint8](random, 0, 1, 16, 255)
	case 6:
		x.X.Imm = anyOf[uint32](random, 0, 1, most)
	}
}

// P10.1, P10.3: any lines, with up to two things spoiled, and any symbols of them.
func TestAnyLines(t *testing.T) {
	random := rand.New(rand.NewSource(10))
	count := map[api.Errno]int{}
	for range 20000 {
		l := anyLines(random)
		for range random.Intn(3) {
			spoil(random, l)
		}
		name, bind, notes := anyName(random), uint8(random.Intn(3)), anyNotes(random)
		switch random.Intn(20) {
		case 0:
			name = anyOf(random, "", "B", strings.Repeat("q", 33))
		case 1:
			bind = uint8(random.Intn(256))
		case 2:
			notes = append(notes, anyNote(random), api.Note{Kind: uint8(random.Intn(7)), N: 1})
		}
		count[agrees(t, "any lines", name, bind, notes, l...)]++
	}
	for e, least := range map[api.Errno]int{api.OK: 5000, api.ErrArg: 5000, api.ErrHave: 100, api.ErrNone: 100} {
		if count[e] < least {
			t.Errorf("%d answers were %d: too few", count[e], e)
		}
	}
}
