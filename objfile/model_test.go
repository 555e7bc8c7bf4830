package objfile

import (
	"fmt"
	"math/rand"
	"reflect"
	"slices"
	"strings"
	"testing"

	"aedicule/api"
	"aedicule/obj"
)

const most = 1<<32 - 1

// numOf: v in n bytes, by divisions.
func numOf(v uint64, n int) string {
	var b []byte
	for range n {
		b = append(b, byte(v%256))
		v /= 256
	}
	return string(b)
}

// textOf: a string's encoding.
func textOf(s string) string { return numOf(uint64(len(s)), 2) + s }

// encoded: the object's encoding, whether it is valid or not.
func encoded(o api.Object) string {
	l := []string{"AOB1", textOf(o.Name), numOf(uint64(len(o.Syms)), 2)}
	for _, s := range o.Syms {
		l = append(l, textOf(s.Name), numOf(uint64(s.Bind), 1), numOf(uint64(s.Kind), 1), numOf(uint64(s.Size), 4), textOf(s.Bytes))
		l = append(l, numOf(uint64(len(s.Rels)), 2))
		for _, r := range s.Rels {
			l = append(l, numOf(uint64(r.Off), 4), numOf(uint64(r.Kind), 1), textOf(r.Name), numOf(uint64(r.Add), 4))
		}
		l = append(l, numOf(uint64(len(s.Notes)), 1))
		for _, n := range s.Notes {
			l = append(l, numOf(uint64(n.Kind), 1), numOf(uint64(n.N), 4), numOf(uint64(n.M), 4))
		}
	}
	return strings.Join(l, "")
}

// walk: a way through bytes; ok, as long as all that was asked for was there.
type walk struct {
	s  string
	at int
	ok bool
}

func (w *walk) bytes(n int) string {
	if !w.ok || w.at+n > len(w.s) {
		w.ok = false
		return ""
	}
	w.at += n
	return w.s[w.at-n : w.at]
}

func (w *walk) num(n int) int {
	v, power := 0, 1
	for _, c := range []byte(w.bytes(n)) {
		v += int(c) * power
		power *= 256
	}
	return v
}

func (w *walk) text() string { return w.bytes(w.num(2)) }

// decoded: the object, valid or not, whose encoding s is.
func decoded(s string) (api.Object, bool) {
	w := &walk{s: s, ok: true}
	magic := w.bytes(4)
	var o api.Object
	o.Name = w.text()
	for i := w.num(2); i > 0 && w.ok; i-- {
		var y api.Sym
		y.Name = w.text()
		y.Bind = uint8(w.num(1))
		y.Kind = uint8(w.num(1))
		y.Size = uint32(w.num(4))
		y.Bytes = w.text()
		for j := w.num(2); j > 0 && w.ok; j-- {
			var r api.Rel
			r.Off = uint32(w.num(4))
			r.Kind = uint8(w.num(1))
			r.Name = w.text()
			r.Add = uint32(w.num(4))
			y.Rels = append(y.Rels, r)
		}
		for j := w.num(1); j > 0 && w.ok; j-- {
			var n api.Note
			n.Kind = uint8(w.num(1))
			n.N = uint32(w.num(4))
			n.M = uint32(w.num(4))
			y.Notes = append(y.Notes, n)
		}
		o.Syms = append(o.Syms, y)
	}
	return o, w.ok && magic == "AOB1" && w.at == len(s)
}

// modelGet: the valid object whose encoding s is, and whether it is one.
func modelGet(s string) (api.Object, bool) {
	o, ok := decoded(s)
	if !ok || obj.Check(o) != api.OK {
		return api.Object{}, false
	}
	return o, true
}

// copyOf: an equal object that shares no list; its lists that are empty are nil.
func copyOf(o api.Object) api.Object {
	c := api.Object{Name: o.Name, Syms: append([]api.Sym(nil), o.Syms...)}
	for i := range c.Syms {
		s := &c.Syms[i]
		s.Rels = append([]api.Rel(nil), s.Rels...)
		s.Notes = append([]api.Note(nil), s.Notes...)
	}
	return c
}

// equal: whether two objects are the same; lists that are nil and lists that are empty are (R4).
func equal(a, b api.Object) bool { return reflect.DeepEqual(copyOf(a), copyOf(b)) }

// equalAll: whether two lists of objects are the same.
func equalAll(a, b []api.Object) bool { return slices.EqualFunc(a, b, equal) }

// brief: the beginning of a text, for a message.
func brief(s string) string { return fmt.Sprintf("%.200q of %d bytes", s, len(s)) }

// puts: that Put answers the object's encoding, if that is not empty, or ErrArg and no bytes.
func puts(t *testing.T, what string, o api.Object, want string) {
	t.Helper()
	was, wantE := copyOf(o), api.OK
	if want == "" {
		wantE = api.ErrArg
	}
	if s, e := Put(o); s != want || e != wantE {
		t.Fatalf("%s: Put: %s, %d; want %s, %d", what, brief(s), e, brief(want), wantE)
	}
	if !equal(o, was) {
		t.Fatalf("%s: Put changed the object", what)
	}
}

// gets: that Get answers that object.
func gets(t *testing.T, what, s string, want api.Object) {
	t.Helper()
	if o, e := Get(s); e != api.OK || !equal(o, want) {
		t.Fatalf("%s: Get of %s: %.200q, %d; want %.200q", what, brief(s), fmt.Sprint(o), e, fmt.Sprint(want))
	}
	l, n, e := All(s)
	if e != api.OK || n != 1 || !equalAll(l, []api.Object{want}) {
		t.Fatalf("%s: All of %s: %.200q, %d, %d; want %.200q", what, brief(s), fmt.Sprint(l), n, e, fmt.Sprint(want))
	}
}

// getsNone: that Get answers that s is no encoding, and nothing else.
func getsNone(t *testing.T, what, s string) {
	t.Helper()
	if o, e := Get(s); e != api.ErrForm || o.Name != "" || len(o.Syms) != 0 {
		t.Fatalf("%s: Get of %s: %.200q, %d; want nothing, %d", what, brief(s), fmt.Sprint(o), e, api.ErrForm)
	}
	if l, n, e := All(s); e != api.ErrForm || n != 0 || len(l) != 0 {
		t.Fatalf("%s: All of %s: %.200q, %d, %d; want nothing, 0, %d", what, brief(s), fmt.Sprint(l), n, e, api.ErrForm)
	}
}

// both: that the valid object has that encoding, there and back (P9.3).
func both(t *testing.T, what string, o api.Object, s string) {
	t.Helper()
	puts(t, what, o, s)
	gets(t, what, s, o)
}

// neither: that the object is not valid to Put, nor what would be its encoding to Get.
func neither(t *testing.T, what string, o api.Object, s string) {
	t.Helper()
	puts(t, what, o, "")
	getsNone(t, what, s)
}

// agrees: that Get of s answers what the model does, and Put of that s again.
func agrees(t *testing.T, what, s string) bool {
	t.Helper()
	o, ok := modelGet(s)
	if ok {
		both(t, what, o, s)
	} else {
		getsNone(t, what, s)
	}
	return ok
}

// agreesAll: that All of the texts answers what the model does.
func agreesAll(t *testing.T, what string, l ...string) {
	t.Helper()
	var want []api.Object
	wantN, wantE, was := len(l), api.OK, slices.Clone(l)
	for i, s := range l {
		o, ok := modelGet(s)
		if !ok {
			want, wantN, wantE = nil, i, api.ErrForm
			break
		}
		want = append(want, o)
	}
	if got, n, e := All(l...); n != wantN || e != wantE || !equalAll(got, want) {
		t.Fatalf("%s: All: %d objects, %d, %d; want %d, %d, %d", what, len(got), n, e, len(want), wantN, wantE)
	}
	if !slices.Equal(l, was) {
		t.Fatalf("%s: All changed its texts", what)
	}
}

// anyOf: one of the elements.
func anyOf[T any](random *rand.Rand, l ...T) T { return l[random.Intn(len(l))] }

func anyName(random *rand.Rand) string {
	return anyOf(random, "main", "a", "a.b", "a_b", "_", ".", "0", "9", "z", strings.Repeat("q", 32))
}

func anyBytes(random *rand.Rand, n int) string {
	b := make([]byte, n)
	random.Read(b)
	return string(b)
}

func anyRels(random *rand.Rand, n int) []api.Rel {
	var l []api.Rel
	for at := random.Intn(4); at+4 <= n && random.Intn(5) > 0; at += 4 + random.Intn(9) {
		l = append(l, api.Rel{Off: uint32(at), Kind: uint8(1 + random.Intn(2)), Name: anyName(random), Add: random.Uint32()})
	}
	return l
}

func anyNote(random *rand.Rand) api.Note {
	return anyOf(random,
		api.Note{Kind: api.NotePages, N: uint32(random.Intn(1025))},
		api.Note{Kind: api.NoteExtent, N: uint32(random.Intn(16)), M: uint32(1 + random.Intn(1024))},
		api.Note{Kind: api.NotePort, N: uint32(1 + random.Intn(65535))},
		api.Note{Kind: api.NoteConsole})
}

// anySym: a symbol that is valid, with that name.
func anySym(random *rand.Rand, name string) api.Sym {
	n := 8 * (1 + random.Intn(60))
	s := api.Sym{Name: name, Bind: uint8(random.Intn(3)), Kind: uint8(1 + random.Intn(3)), Size: uint32(n)}
	if s.Kind != api.SymCode {
		s.Size = uint32(1 + random.Intn(8192))
		n = random.Intn(min(int(s.Size), 480) + 1)
	}
	s.Bytes = anyBytes(random, n)
	s.Rels = anyRels(random, n)
	for range random.Intn(9) {
		s.Notes = append(s.Notes, anyNote(random))
	}
	return s
}

// anyObject: an object that is valid.
func anyObject(random *rand.Rand) api.Object {
	o := api.Object{Name: anyName(random)}
	had := map[string]bool{}
	for range random.Intn(6) {
		name := anyName(random)
		if !had[name] {
			o.Syms = append(o.Syms, anySym(random, name))
		}
		had[name] = true
	}
	return o
}

// spoiled: the bytes with one of them changed, left out or doubled, with some cut off or added.
func spoiled(random *rand.Rand, s string) string {
	if s == "" {
		return api.ObjMagic
	}
	at := random.Intn(len(s))
	switch random.Intn(6) {
	case 0:
		return s[:at]
	case 1:
		return s[:at] + s[at+1:]
	case 2:
		return s[:at+1] + s[at:]
	case 3:
		return s + anyBytes(random, 1+random.Intn(3))
	}
	return s[:at] + string([]byte{anyOf(random, s[at]+1, s[at]-1, s[at]^1<<random.Intn(8), byte(random.Intn(256)))}) + s[at+1:]
}

// P9.1, P9.2, P9.3: any objects, and their encodings with up to two things spoiled, each alone and some together.
func TestAnyObjects(t *testing.T) {
	random := rand.New(rand.NewSource(9))
	count := map[bool]int{}
	for range 8000 {
		var l []string
		for range random.Intn(4) {
			o := anyObject(random)
			s := encoded(o)
			both(t, "any object", o, s)
			for range random.Intn(3) {
				s = spoiled(random, s)
				count[agrees(t, "a spoiled one", s)]++
			}
			l = append(l, s)
		}
		agreesAll(t, "any texts", l...)
	}
	if count[true] < 500 || count[false] < 500 {
		t.Errorf("%d spoiled ones were valid, %d not: too few of one sort", count[true], count[false])
	}
}
