package obj

import (
	"fmt"
	"maps"
	"math/rand"
	"reflect"
	"regexp"
	"slices"
	"strings"
	"testing"

	"aedicule/api"
)

const most = 1<<32 - 1

var nameForm = regexp.MustCompile(`\A[a-z0-9._]{1,32}\z`)

// bounds: between which a note's numbers are.
type bounds struct{ fromN, toN, fromM, toM int64 }

// noteBounds: those of each kind of notes, by its number.
var noteBounds = map[uint8]bounds{
	1: {0, 1024, 0, 0},
	2: {0, 15, 1, 1024},
	3: {1, 65535, 0, 0},
	4: {0, 0, 0, 0},
}

// relSizes: how many bytes each kind of relocations has, by its number.
var relSizes = map[uint8]int64{1: 4, 2: 2}

func within(v uint32, from, to int64) bool { return from <= int64(v) && int64(v) <= to }

// validNote: whether a symbol may have the note, by the chapter.
func validNote(n api.Note) bool {
	b, is := noteBounds[n.Kind]
	return is && within(n.N, b.fromN, b.toN) && within(n.M, b.fromM, b.toM)
}

// validRels: whether the symbol may have its relocations, by the chapter: each byte that one has is marked.
func validRels(s api.Sym) bool {
	marked := make([]bool, len(s.Bytes))
	last := int64(-1)
	for _, r := range s.Rels {
		n, is := relSizes[r.Kind]
		if !is || int64(r.Off) <= last || !nameForm.MatchString(r.Name) {
			return false
		}
		last = int64(r.Off)
		for at := last; at < last+n; at++ {
			if at >= int64(len(marked)) || marked[at] {
				return false
			}
			marked[at] = true
		}
	}
	return len(s.Rels) <= 1024
}

// validSym: whether the symbol is valid, by the chapter.
func validSym(s api.Sym) bool {
	size, n := int64(s.Size), int64(len(s.Bytes))
	for _, note := range s.Notes {
		if !validNote(note) {
			return false
		}
	}
	switch {
	case !nameForm.MatchString(s.Name), s.Bind > 2, s.Kind == 0, s.Kind > 3, len(s.Notes) > 8:
		return false
	case size == 0, size > 8192, n > size:
		return false
	case s.Kind == 1 && (size != n || size/8*8 != size):
		return false
	}
	return validRels(s)
}

// validObject: whether the object is valid, by the chapter.
func validObject(o api.Object) bool {
	count := map[string]int{}
	for _, s := range o.Syms {
		count[s.Name]++
		if count[s.Name] > 1 || !validSym(s) {
			return false
		}
	}
	return nameForm.MatchString(o.Name) && len(o.Syms) <= 64
}

// modelFind: which symbol has the name, from the last one to the first.
func modelFind(o api.Object, name string) (int, bool) {
	at, is := 0, false
	if validObject(o) {
		for i := len(o.Syms) - 1; i >= 0; i-- {
			if o.Syms[i].Name == name {
				at, is = i, true
			}
		}
	}
	return at, is
}

// modelNames: the names of the valid objects' symbols.
func modelNames(l []api.Object) []string {
	set := map[string]bool{}
	for _, o := range l {
		if validObject(o) {
			for _, s := range o.Syms {
				set[s.Name] = true
			}
		}
	}
	return slices.Sorted(maps.Keys(set))
}

// copyOf: an equal object that shares no list.
func copyOf(o api.Object) api.Object {
	o.Syms = slices.Clone(o.Syms)
	for i := range o.Syms {
		o.Syms[i].Rels = slices.Clone(o.Syms[i].Rels)
		o.Syms[i].Notes = slices.Clone(o.Syms[i].Notes)
	}
	return o
}

// copies: equal objects, in a list of their own.
func copies(l []api.Object) []api.Object {
	c := make([]api.Object, 0, len(l))
	for _, o := range l {
		c = append(c, copyOf(o))
	}
	return c
}

// is: that the answer is OK if that is valid, and ErrArg if not.
func is(t *testing.T, what string, valid bool, e api.Errno) {
	t.Helper()
	want := api.OK
	if !valid {
		want = api.ErrArg
	}
	if e != want {
		t.Fatalf("%s: %d; want %d", what, e, want)
	}
}

// someNames: those of the symbols, and others that none of them has.
func someNames(o api.Object) []string {
	l := []string{"", "x.none", "A", "main", strings.Repeat("m", 33)}
	for _, s := range o.Syms {
		l = append(l, s.Name, s.Name+"_", strings.ToUpper(s.Name))
	}
	return l
}

// agrees: that the functions say of the object, its symbols and notes what the model says, and leave it as it is.
func agrees(t *testing.T, o api.Object) {
	t.Helper()
	was := copyOf(o)
	is(t, fmt.Sprintf("Check(%.300q)", fmt.Sprint(o)), validObject(o), Check(o))
	for _, s := range o.Syms {
		is(t, fmt.Sprintf("Sym(%.300q)", fmt.Sprint(s)), validSym(s), Sym(s))
		for _, n := range s.Notes {
			is(t, fmt.Sprint("Note", n), validNote(n), Note(n))
		}
	}
	for _, name := range someNames(o) {
		found(t, o, name)
	}
	listed(t, o)
	if !reflect.DeepEqual(o, was) {
		t.Fatalf("an object was changed: %.300q; want %.300q", fmt.Sprint(o), fmt.Sprint(was))
	}
}

// found: that Find answers what the model does.
func found(t *testing.T, o api.Object, name string) {
	t.Helper()
	at, ok := Find(o, name)
	if wantAt, wantOk := modelFind(o, name); at != wantAt || ok != wantOk {
		t.Fatalf("Find of %q: %d, %v; want %d, %v", name, at, ok, wantAt, wantOk)
	}
}

// listed: that Names answers what the model does, and leaves the objects as they are.
func listed(t *testing.T, l ...api.Object) {
	t.Helper()
	was := copies(l)
	if got, want := Names(l...), modelNames(l); !slices.Equal(got, want) {
		t.Fatalf("Names: %.300q; want %.300q", got, want)
	}
	if !reflect.DeepEqual(copies(l), was) {
		t.Fatal("an object was changed by Names")
	}
}

// anyOf: one of the elements.
func anyOf[T any](random *rand.Rand, l ...T) T { return l[random.Intn(len(l))] }

func anyName(random *rand.Rand) string {
	return anyOf(random, "main", "a", "a.b", "a_b", "_", ".", "0", "9", "z", strings.Repeat("q", 32))
}

// anyRels: relocations, one behind the other, in n bytes.
func anyRels(random *rand.Rand, n int) []api.Rel {
	var l []api.Rel
	for at := random.Intn(4); random.Intn(6) > 0; at += anyOf(random, 0, 0, 1, 5) {
		kind := anyOf[uint8](random, api.RelWord, api.RelHalf)
		if at+int(relSizes[kind]) > n {
			break
		}
		l = append(l, api.Rel{Off: uint32(at), Kind: kind, Name: anyName(random), Add: random.Uint32()})
		at += int(relSizes[kind])
	}
	return l
}

func anyNote(random *rand.Rand) api.Note {
	kind := uint8(1 + random.Intn(4))
	b := noteBounds[kind]
	return api.Note{Kind: kind, N: anyFrom(random, b.fromN, b.toN), M: anyFrom(random, b.fromM, b.toM)}
}

// anyFrom: a number between the bounds, often one of them.
func anyFrom(random *rand.Rand, from, to int64) uint32 {
	return uint32(anyOf(random, from, to, from+random.Int63n(to-from+1)))
}

// anySym: a symbol that is valid, with that name.
func anySym(random *rand.Rand, name string) api.Sym {
	n := 8 * (1 + random.Intn(5))
	s := api.Sym{Name: name, Bind: uint8(random.Intn(3)), Kind: uint8(1 + random.Intn(3)), Size: uint32(n)}
	if s.Kind != api.SymCode {
		s.Size = anyOf(random, uint32(n), uint32(n+random.Intn(9)), 8192)
		n -= random.Intn(3)
	}
	s.Bytes = strings.Repeat("\x00\xffab", 11)[:n]
	s.Rels = anyRels(random, n)
	for range random.Intn(9) {
		s.Notes = append(s.Notes, anyNote(random))
	}
	return s
}

// anyObject: an object that is valid.
func anyObject(random *rand.Rand) api.Object {
	o := api.Object{Name: anyName(random)}
	had := map[string]bool{}
	for range random.Intn(7) {
		name := anyName(random)
		if !had[name] {
			o.Syms = append(o.Syms, anySym(random, name))
		}
		had[name] = true
	}
	return o
}

// spoil: another value somewhere in the object: one that may be there, or one that may not.
func spoil(random *rand.Rand, o *api.Object) {
	if len(o.Syms) == 0 || random.Intn(12) == 0 {
		o.Name = anyOf(random, "", "b", "B", strings.Repeat("q", 33), "a b", "ä")
		return
	}
	s := &o.Syms[random.Intn(len(o.Syms))]
	switch random.Intn(8) {
	case 0:
		s.Name = anyOf(random, o.Syms[0].Name, "", "k", "k-", "K", strings.Repeat("k", 33))
	case 1:
		s.Bind = uint8(random.Intn(5))
	case 2:
		s.Kind = uint8(random.Intn(6))
	case 3:
		s.Size = anyOf(random, 0, s.Size-1, s.Size+1, s.Size+8, 8192, 8193, 8200, most)
	case 4:
		s.Bytes = anyOf(random, "", s.Bytes[min(1, len(s.Bytes)):], s.Bytes+"x", s.Bytes+"12345678")
	case 5, 6:
		spoilRel(random, s)
	case 7:
		spoilNote(random, s)
	}
}

func spoilRel(random *rand.Rand, s *api.Sym) {
	if len(s.Rels) == 0 {
		s.Rels = anyRels(random, len(s.Bytes)+6)
		return
	}
	r := &s.Rels[random.Intn(len(s.Rels))]
	switch random.Intn(4) {
	case 0:
		r.Off = anyOf(random, r.Off-1, r.Off+1, r.Off+2, 0, uint32(len(s.Bytes)-4), uint32(len(s.Bytes)-2), most-3, most)
	case 1:
		r.Kind = uint8(random.Intn(5))
	case 2:
		r.Name = anyOf(random, "", "l", "L", strings.Repeat("l", 33))
	case 3:
		slices.Reverse(s.Rels)
	}
}

func spoilNote(random *rand.Rand, s *api.Sym) {
	if len(s.Notes) == 0 {
		s.Notes = []api.Note{anyNote(random)}
		return
	}
	n := &s.Notes[random.Intn(len(s.Notes))]
	switch random.Intn(3) {
	case 0:
		n.Kind = uint8(random.Intn(6))
	case 1:
		n.N = anyOf(random, 0, 1, n.N+1, n.N-1, 15, 16, 1024, 1025, 65535, 65536, most)
	case 2:
		n.M = anyOf(random, 0, 1, n.M+1, 1024, 1025, most)
	}
}

// P8.1, P8.2: any objects, with up to three parts spoiled, each alone and some together.
func TestAnyObjects(t *testing.T) {
	random := rand.New(rand.NewSource(8))
	valid, not := 0, 0
	for range 10000 {
		var l []api.Object
		for range random.Intn(4) {
			o := anyObject(random)
			for range random.Intn(4) {
				spoil(random, &o)
			}
			agrees(t, o)
			if validObject(o) {
				valid++
			} else {
				not++
			}
			l = append(l, o)
		}
		listed(t, l...)
	}
	if valid < 4000 || not < 4000 {
		t.Errorf("%d objects were valid, %d not: too few of one sort", valid, not)
	}
}
