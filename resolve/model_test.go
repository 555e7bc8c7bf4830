package resolve

import (
	"fmt"
	"math"
	"math/rand"
	"reflect"
	"slices"
	"strings"
	"testing"

	"aedicule/api"
	"aedicule/obj"
)

// binds: how a symbol is bound, by the sign behind its name.
var binds = map[byte]uint8{'-': api.BindLocal, '!': api.BindStrong, '?': api.BindWeak}

// symbol: a symbol that is told by a word: its name, the sign of how it is bound, and behind a colon the names to which its relocations refer, with commas in between.
func symbol(word string) api.Sym {
	head, names, some := strings.Cut(word, ":")
	last := len(head) - 1
	s := api.Sym{Name: head[:last], Bind: binds[head[last]], Kind: api.SymCode}
	if some {
		for i, name := range strings.Split(names, ",") {
			s.Rels = append(s.Rels, api.Rel{Off: uint32(4 * i), Kind: api.RelWord, Name: name, Add: uint32(i)})
		}
	}
	s.Size = uint32(8 * (1 + len(s.Rels)/2))
	s.Bytes = strings.Repeat("\x00", int(s.Size))
	return s
}

// object: an object that is told by words, one for each of its symbols.
func object(text string) api.Object {
	o := api.Object{Name: "o"}
	for i, word := range strings.Fields(text) {
		s := symbol(word)
		s.Kind += uint8(i % 3)
		o.Syms = append(o.Syms, s)
	}
	return o
}

func objects(texts ...string) []api.Object {
	var l []api.Object
	for _, text := range texts {
		l = append(l, object(text))
	}
	return l
}

// at: places, each told by its object and its symbol.
func at(numbers ...int) []api.Place {
	var l []api.Place
	for i := 0; i < len(numbers); i += 2 {
		l = append(l, api.Place{Obj: numbers[i], Sym: numbers[i+1]})
	}
	return l
}

// places: those of all symbols, object by object.
func places(l []api.Object) []api.Place {
	var all []api.Place
	for i := range l {
		for j := range l[i].Syms {
			all = append(all, api.Place{Obj: i, Sym: j})
		}
	}
	return all
}

func symAt(l []api.Object, p api.Place) api.Sym { return l[p.Obj].Syms[p.Sym] }

// named: the places of the symbols with that name that are bound so, object by object.
func named(l []api.Object, name string, bind uint8) []api.Place {
	var some []api.Place
	for _, p := range places(l) {
		if s := symAt(l, p); s.Name == name && s.Bind == bind {
			some = append(some, p)
		}
	}
	return some
}

// modelCheck: what Check answers, by the chapter.
func modelCheck(l []api.Object) (string, api.Errno) {
	if len(l) > 16 || slices.ContainsFunc(l, func(o api.Object) bool { return obj.Check(o) != api.OK }) {
		return "", api.ErrArg
	}
	for _, p := range places(l) {
		if s := symAt(l, p); s.Bind == api.BindStrong && named(l, s.Name, api.BindStrong)[0] != p {
			return s.Name, api.ErrDup
		}
	}
	return "", api.OK
}

// modelRefers: to which symbol the name refers there, by the chapter.
func modelRefers(l []api.Object, from int, name string) (api.Place, bool) {
	for _, p := range named(l, name, api.BindLocal) {
		if p.Obj == from {
			return p, true
		}
	}
	for _, bind := range []uint8{api.BindStrong, api.BindWeak} {
		if all := named(l, name, bind); len(all) > 0 {
			return all[0], true
		}
	}
	return api.Place{}, false
}

// modelFind: what Find answers, by the chapter.
func modelFind(l []api.Object, from int, name string) (api.Place, api.Errno) {
	if _, e := modelCheck(l); e != api.OK {
		return api.Place{}, e
	}
	if from != -1 && (from < 0 || from >= len(l)) {
		return api.Place{}, api.ErrArg
	}
	p, is := modelRefers(l, from, name)
	if !is {
		return api.Place{}, api.ErrUndef
	}
	return p, api.OK
}

// modelRefs: what Refs answers, by the chapter.
func modelRefs(l []api.Object, p api.Place) ([]api.Place, string, api.Errno) {
	if name, e := modelCheck(l); e != api.OK {
		return nil, name, e
	}
	if !slices.Contains(places(l), p) {
		return nil, "", api.ErrArg
	}
	var refs []api.Place
	for _, rel := range symAt(l, p).Rels {
		to, is := modelRefers(l, p.Obj, rel.Name)
		if !is {
			return nil, rel.Name, api.ErrUndef
		}
		refs = append(refs, to)
	}
	return refs, "", api.OK
}

// modelWinners: what Winners answers, by the chapter: the symbols to which their own names refer.
func modelWinners(l []api.Object) ([]api.Place, api.Errno) {
	if _, e := modelCheck(l); e != api.OK {
		return nil, e
	}
	return slices.DeleteFunc(places(l), func(p api.Place) bool {
		to, _ := modelRefers(l, p.Obj, symAt(l, p).Name)
		return to != p
	}), api.OK
}

// copies: equal objects that share no list.
func copies(l []api.Object) []api.Object {
	l = slices.Clone(l)
	for i := range l {
		l[i].Syms = slices.Clone(l[i].Syms)
		for j := range l[i].Syms {
			s := &l[i].Syms[j]
			s.Rels, s.Notes = slices.Clone(s.Rels), slices.Clone(s.Notes)
		}
	}
	return l
}

// brief: what a test tells of something, shortened.
func brief(x any) string { return fmt.Sprintf("%.300q", fmt.Sprint(x)) }

// checked: that Check answers that.
func checked(t *testing.T, what string, l []api.Object, name string, e api.Errno) {
	t.Helper()
	if gotName, gotE := Check(l...); gotName != name || gotE != e {
		t.Fatalf("%s: Check: %q, %d; want %q, %d", what, gotName, gotE, name, e)
	}
}

// found: that Find answers that.
func found(t *testing.T, what string, l []api.Object, from int, name string, p api.Place, e api.Errno) {
	t.Helper()
	if gotP, gotE := Find(l, from, name); gotP != p || gotE != e {
		t.Fatalf("%s: Find(%d, %.40q): %v, %d; want %v, %d", what, from, name, gotP, gotE, p, e)
	}
}

// referred: that Refs answers that.
func referred(t *testing.T, what string, l []api.Object, p api.Place, refs []api.Place, name string, e api.Errno) {
	t.Helper()
	if gotRefs, gotName, gotE := Refs(l, p); !slices.Equal(gotRefs, refs) || gotName != name || gotE != e {
		t.Fatalf("%s: Refs(%v): %s, %q, %d; want %s, %q, %d", what, p, brief(gotRefs), gotName, gotE, brief(refs), name, e)
	}
}

// won: that Winners answers that.
func won(t *testing.T, what string, l []api.Object, all []api.Place, e api.Errno) {
	t.Helper()
	if got, gotE := Winners(l...); !slices.Equal(got, all) || gotE != e {
		t.Fatalf("%s: Winners: %s, %d; want %s, %d", what, brief(got), gotE, brief(all), e)
	}
}

// someNames: those that stand in the objects, and others.
func someNames(l []api.Object) []string {
	names := []string{"", "x.none", "a", "A", strings.Repeat("a", 33)}
	for _, p := range places(l) {
		names = append(names, symAt(l, p).Name)
	}
	slices.Sort(names)
	return slices.Compact(names)
}

// somePlaces: those of the symbols, and others: just past these, below them, and far off.
func somePlaces(l []api.Object) []api.Place {
	some := append(places(l), at(-1, 0, 0, -1, -1, -1, len(l), 0, len(l), -1, math.MinInt, 0, math.MaxInt, 0, 0, math.MinInt, 0, math.MaxInt)...)
	for i := range l {
		some = append(some, at(i, len(l[i].Syms), i, -1)...)
	}
	return some
}

// agrees: that each function answers what the model does, of all that may be asked, and leaves the objects as they are.
func agrees(t *testing.T, l []api.Object) {
	t.Helper()
	was, what := copies(l), brief(l)
	name, e := modelCheck(l)
	checked(t, what, l, name, e)
	for _, from := range []int{math.MinInt, -2, len(l), len(l) + 1, math.MaxInt} {
		p, e := modelFind(l, from, "a")
		found(t, what, l, from, "a", p, e)
	}
	for from := -1; from < len(l); from++ {
		for _, name := range someNames(l) {
			p, e := modelFind(l, from, name)
			found(t, what, l, from, name, p, e)
		}
	}
	for _, p := range somePlaces(l) {
		refs, name, e := modelRefs(l, p)
		referred(t, what, l, p, refs, name, e)
	}
	all, e := modelWinners(l)
	won(t, what, l, all, e)
	if !reflect.DeepEqual(l, was) {
		t.Fatalf("the objects %s were changed to %s", what, brief(l))
	}
}

// anyOf: one of the elements.
func anyOf[T any](random *rand.Rand, l ...T) T { return l[random.Intn(len(l))] }

func anyName(random *rand.Rand) string {
	return anyOf(random, "a", "b", "c", "aa", "a.b", "_", "0", strings.Repeat("z", 32))
}

// anyWord: a symbol with that name, as a word.
func anyWord(random *rand.Rand, name string) string {
	var refs []string
	for range random.Intn(4) {
		refs = append(refs, anyName(random))
	}
	word := name + anyOf(random, "!", "?", "?", "-", "-")
	if len(refs) == 0 {
		return word
	}
	return word + ":" + strings.Join(refs, ",")
}

// anyObject: an object that is valid.
func anyObject(random *rand.Rand) api.Object {
	var words []string
	had := map[string]bool{}
	for range random.Intn(6) {
		name := anyName(random)
		if !had[name] {
			words = append(words, anyWord(random, name))
		}
		had[name] = true
	}
	return object(strings.Join(words, " "))
}

// anyObjects: objects that are valid, now and then one of them not.
func anyObjects(random *rand.Rand) []api.Object {
	var l []api.Object
	for range anyOf(random, 0, 1, 2, 2, 3, 3, 4, 6, 16, 17) {
		l = append(l, anyObject(random))
	}
	if len(l) > 0 && random.Intn(10) == 0 {
		l[random.Intn(len(l))] = anyOf(random, notValid()...)
	}
	return l
}

// P12.1 to P12.3: any objects, and all that may be asked of them.
func TestAnyObjects(t *testing.T) {
	random := rand.New(rand.NewSource(12))
	count := map[api.Errno]int{}
	for range 6000 {
		l := anyObjects(random)
		agrees(t, l)
		_, e := Check(l...)
		count[e]++
	}
	for _, e := range []api.Errno{api.OK, api.ErrArg, api.ErrDup} {
		if count[e] < 600 {
			t.Errorf("too few were answered by %d: %v", e, count)
		}
	}
}
