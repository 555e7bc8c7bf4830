package resolve

import (
	"fmt"
	"math"
	"slices"
	"strconv"
	"strings"
	"testing"
	"unsafe"

	"aedicule/api"
)

// notValid: objects that are not valid, each for one reason.
func notValid() []api.Object {
	change := func(f func(*api.Object)) api.Object {
		o := object("f! g-:f h?")
		f(&o)
		return o
	}
	return []api.Object{
		{},
		change(func(o *api.Object) { o.Name = "" }),
		change(func(o *api.Object) { o.Name = "O" }),
		change(func(o *api.Object) { o.Syms[2].Name = "f" }),
		change(func(o *api.Object) { o.Syms[0].Name = "F" }),
		change(func(o *api.Object) { o.Syms[0].Name = "" }),
		change(func(o *api.Object) { o.Syms[0].Bind = 3 }),
		change(func(o *api.Object) { o.Syms[2].Bind = 255 }),
		change(func(o *api.Object) { o.Syms[1].Kind = 0 }),
		change(func(o *api.Object) { o.Syms[0].Size++ }),
		change(func(o *api.Object) { o.Syms[1].Rels[0].Off = 5 }),
		change(func(o *api.Object) { o.Syms[1].Rels[0].Name = "no name" }),
		change(func(o *api.Object) { o.Syms[2].Notes = []api.Note{{Kind: api.NotePort}} }),
		object(numbered("n", 65, "?")),
	}
}

// numbered: n words, of names that end with a number, bound as the sign says.
func numbered(name string, n int, sign string) string {
	var words []string
	for i := range n {
		words = append(words, name+strconv.Itoa(i)+sign)
	}
	return strings.Join(words, " ")
}

// refused: that each function answers that error, and Check and Refs that name.
func refused(t *testing.T, what string, l []api.Object, name string, e api.Errno) {
	t.Helper()
	checked(t, what, l, name, e)
	won(t, what, l, nil, e)
	for _, from := range []int{math.MinInt, -2, -1, 0, 1, len(l) - 1, len(l), math.MaxInt} {
		for _, asked := range []string{"f", "x.none", "", "A"} {
			found(t, what, l, from, asked, api.Place{}, e)
		}
	}
	for _, p := range at(0, 0, 0, 1, 1, 0, -1, 0, 0, -1, len(l), 0, 0, 64, math.MinInt, math.MaxInt) {
		referred(t, what, l, p, nil, name, e)
	}
}

// accepted: that the objects are such that names can be resolved in them.
func accepted(t *testing.T, texts ...string) {
	t.Helper()
	what := fmt.Sprintf("%q", texts)
	checked(t, what, objects(texts...), "", api.OK)
	agrees(t, objects(texts...))
}

// duplicated: that a name is that of two strong symbols.
func duplicated(t *testing.T, name string, texts ...string) {
	t.Helper()
	what := fmt.Sprintf("%q", texts)
	refused(t, what, objects(texts...), name, api.ErrDup)
	agrees(t, objects(texts...))
}

// P12.1, P12.2: the chapter's example.
func TestExample(t *testing.T) {
	l := objects("f? g-", "f! g!")
	checked(t, "the example", l, "", api.OK)
	found(t, "the example", l, 0, "f", api.Place{Obj: 1, Sym: 0}, api.OK)
	found(t, "the example", l, 0, "g", api.Place{Obj: 0, Sym: 1}, api.OK)
	found(t, "the example", l, 1, "g", api.Place{Obj: 1, Sym: 1}, api.OK)
	refused(t, "with another f strong", append(l, object("f!")), "f", api.ErrDup)
}

// P12.1: as many objects as may be linked, and more of them: also such as have no symbols.
func TestNumberOfObjects(t *testing.T) {
	for n := range 34 {
		var empty, full []api.Object
		for i := range n {
			empty = append(empty, object(""))
			full = append(full, object(fmt.Sprintf("f%d! w? l-:w,f0", i)))
		}
		for _, l := range [][]api.Object{empty, full} {
			what := fmt.Sprint(n, " objects")
			if n <= 16 {
				checked(t, what, l, "", api.OK)
				agrees(t, l)
			} else {
				refused(t, what, l, "", api.ErrArg)
			}
		}
	}
	for _, n := range []int{17, 18, 32, 256, 257, 272, 65536 + 16} {
		refused(t, "the same object over and over", slices.Repeat(objects("f!"), n), "", api.ErrArg)
	}
}

// P12.1: one object that is not valid, at each place: also beside two strong symbols with the same name, ahead of it and behind it.
func TestNotValid(t *testing.T) {
	for i, bad := range notValid() {
		refused(t, fmt.Sprint("alone ", i), []api.Object{bad}, "", api.ErrArg)
		for n := 1; n <= 15; n += 7 {
			for _, text := range []string{"", "f!", "f?", "f-", "d! e-:d"} {
				for at := range n + 1 {
					l := slices.Insert(slices.Repeat(objects(text), n), at, bad)
					refused(t, fmt.Sprintf("the one that is not valid, %d, at %d beside %d of %q", i, at, n, text), l, "", api.ErrArg)
				}
			}
		}
		refused(t, "one of 17", append(slices.Repeat(objects("f?"), 16), bad), "", api.ErrArg)
		refused(t, "each", []api.Object{bad, bad}, "", api.ErrArg)
	}
}

// P12.1: two strong symbols with the same name, in each two of up to 16 objects, at each place there.
func TestTwoStrong(t *testing.T) {
	for n := 2; n <= 16; n++ {
		for j := range n {
			for i := range j {
				texts := slices.Repeat([]string{"f? g-:f h-"}, n)
				texts[i], texts[j] = "f! g-", "g- a? f!"
				duplicated(t, "f", texts...)
				texts[i], texts[j] = numbered("a", 63, "-")+" f!", "f!"
				checked(t, "at the end", objects(texts...), "f", api.ErrDup)
			}
		}
	}
	for i := range 64 {
		text := strings.Replace(numbered("a", 64, "?"), fmt.Sprintf("a%d?", i), "f!", 1)
		checked(t, "at each place", objects(text, "f!"), "f", api.ErrDup)
		checked(t, "at each place", objects("f!", text), "f", api.ErrDup)
	}
}

// P12.1: three strong symbols and more with the same name, and others in between that are not strong.
func TestThreeStrong(t *testing.T) {
	duplicated(t, "f", "f!", "f!", "f!")
	duplicated(t, "f", "f! a!", "b! f!", "c! d! f!")
	duplicated(t, "f", slices.Repeat([]string{"f!"}, 16)...)
	for _, between := range []string{"", "f?", "f-", "g?", "f- g?"} {
		duplicated(t, "f", "f!", between, "f!", between, "f!")
		duplicated(t, "f", between, "f!", between, "f!", between)
	}
}

// P12.1: of several names that occur twice that of the first symbol before which there is another one: not the name that occurs first, not the least one.
func TestFirstOfDuplicates(t *testing.T) {
	duplicated(t, "b", "a! b!", "b! a!")
	duplicated(t, "a", "a! b!", "a! b!")
	duplicated(t, "b", "a! b!", "b!", "a!")
	duplicated(t, "z", "a! b! z!", "c!", "z!", "a! b! c!")
	duplicated(t, "c", "a!", "b! c!", "c!", "b!", "a!")
	duplicated(t, "b", "a! b!", "c- a? b!", "a!")
	duplicated(t, "z", "z?", "a! z!", "z! a!")
	duplicated(t, "a", "z?", "a! z!", "a!", "z!")
	names := []string{"a", "b", "c", "d"}
	for i := range names {
		for j := range names {
			for k := range names {
				if i == j || j == k || i == k {
					continue
				}
				text := fmt.Sprintf("%s! %s! %s!", names[i], names[j], names[k])
				duplicated(t, names[i], "a! b! c! d!", text)
				duplicated(t, names[i], "d! a!", "b!", "c!", text, "a! b! c! d!")
			}
		}
	}
}

// P12.1: symbols with the same name that are no two strong ones.
func TestNoDuplicates(t *testing.T) {
	for _, a := range []string{"f!", "f?", "f-"} {
		for _, b := range []string{"f?", "f-"} {
			for _, c := range []string{"f?", "f-"} {
				accepted(t, a, b, c)
				accepted(t, b, a, c)
				accepted(t, b, c, a)
			}
		}
	}
	accepted(t, "f!", "g!", "ff!", "f.! f_! f0! g0!", "")
	accepted(t, slices.Repeat([]string{"f?"}, 16)...)
	accepted(t, slices.Repeat([]string{"f-"}, 16)...)
	accepted(t, append(slices.Repeat([]string{"f- g?"}, 15), "f! g!")...)
	accepted(t, append([]string{"f! g!"}, slices.Repeat([]string{"g- f?"}, 15)...)...)
}

// P12.2: to what names refer from each object and from outside: what is told is the place for from -1, then for each object (ErrUndef: -1 -1).
func TestFind(t *testing.T) {
	for _, c := range []struct {
		texts []string
		want  []api.Place
	}{
		{[]string{"f!"}, at(0, 0, 0, 0)},
		{[]string{"f?"}, at(0, 0, 0, 0)},
		{[]string{"f-"}, at(-1, -1, 0, 0)},
		{[]string{"g!"}, at(-1, -1, -1, -1)},
		{[]string{"", "f-"}, at(-1, -1, -1, -1, 1, 0)},
		{[]string{"f-", "g! f-", ""}, at(-1, -1, 0, 0, 1, 1, -1, -1)},
		{[]string{"f?", "f?", "f?"}, at(0, 0, 0, 0, 0, 0, 0, 0)},
		{[]string{"", "a? f?", "f?"}, at(1, 1, 1, 1, 1, 1, 1, 1)},
		{[]string{"f?", "g! f!"}, at(1, 1, 1, 1, 1, 1)},
		{[]string{"g! f!", "f?"}, at(0, 1, 0, 1, 0, 1)},
		{[]string{"f?", "a? f!", "f?"}, at(1, 1, 1, 1, 1, 1, 1, 1)},
		{[]string{"f-", "f?", "f!", "f-"}, at(2, 0, 0, 0, 2, 0, 2, 0, 3, 0)},
		{[]string{"f-", "f?", "f?", "f-"}, at(1, 0, 0, 0, 1, 0, 1, 0, 3, 0)},
		{[]string{"a! b! c! f!", "f-"}, at(0, 3, 0, 3, 1, 0)},
		{[]string{"fa! af!", "ff? f.!"}, at(-1, -1, -1, -1, -1, -1)},
	} {
		for i, want := range c.want {
			e := api.OK
			if want.Obj < 0 {
				want, e = api.Place{}, api.ErrUndef
			}
			found(t, fmt.Sprintf("%q", c.texts), objects(c.texts...), i-1, "f", want, e)
		}
		agrees(t, objects(c.texts...))
	}
}

// P12.2: the index of each object, and what is none: that comes ahead of a name that refers to no symbol.
func TestFindFrom(t *testing.T) {
	for n := range 17 {
		l := slices.Repeat(objects("f- g?"), n)
		for from := -1; from < n; from++ {
			want, e := api.Place{Obj: from}, api.OK
			if from < 0 {
				want, e = api.Place{}, api.ErrUndef
			}
			found(t, "from each", l, from, "f", want, e)
			found(t, "from each", l, from, "none", api.Place{}, api.ErrUndef)
			if n > 0 {
				found(t, "from each", l, from, "g", api.Place{Obj: 0, Sym: 1}, api.OK)
			}
		}
		for _, from := range []int{math.MinInt, math.MinInt + 1, -1 << 32, -1<<32 - 1, -257, -17, -3, -2, n, n + 1, n + 64, 1 << 32, 1<<32 - 1, math.MaxInt - 1, math.MaxInt} {
			for _, name := range []string{"f", "g", "none", "", "A"} {
				found(t, "from none", l, from, name, api.Place{}, api.ErrArg)
			}
		}
	}
}

// P12.2: names that no symbol has, also such as no symbol can have.
func TestFindNoName(t *testing.T) {
	long := strings.Repeat("f", 32)
	l := objects("f! g- "+long+"?", "g? h-", "")
	for from := -1; from < 3; from++ {
		for _, name := range []string{"", " ", "F", "f ", " f", "f\x00", "\x00", "ff", "i", "gh", "g-", "f!", "ä", "\xff", long[1:], long + "f", strings.Repeat("f", 1<<20)} {
			found(t, "no name", l, from, name, api.Place{}, api.ErrUndef)
		}
		found(t, "the longest name", l, from, long, api.Place{Obj: 0, Sym: 2}, api.OK)
	}
	for _, name := range []string{"", "f"} {
		found(t, "no object", nil, -1, name, api.Place{}, api.ErrUndef)
		found(t, "no object", nil, 0, name, api.Place{}, api.ErrArg)
	}
}

// P12.3: to what the names of a symbol's relocations refer, in their order.
func TestRefs(t *testing.T) {
	l := objects("main!:f,g,main,f,h f? g- none!", "f! h-:h,f,g g? k?:g", "h!:h m-:k", "h-:h,main")
	for _, c := range []struct {
		p    api.Place
		refs []api.Place
	}{
		{api.Place{Obj: 0, Sym: 0}, at(1, 0, 0, 2, 0, 0, 1, 0, 2, 0)},
		{api.Place{Obj: 0, Sym: 3}, nil},
		{api.Place{Obj: 1, Sym: 0}, nil},
		{api.Place{Obj: 1, Sym: 1}, at(1, 1, 1, 0, 1, 2)},
		{api.Place{Obj: 1, Sym: 3}, at(1, 2)},
		{api.Place{Obj: 2, Sym: 0}, at(2, 0)},
		{api.Place{Obj: 2, Sym: 1}, at(1, 3)},
		{api.Place{Obj: 3, Sym: 0}, at(3, 0, 0, 0)},
	} {
		referred(t, "several objects", l, c.p, c.refs, "", api.OK)
	}
	agrees(t, l)
}

// P12.3: the relocations are those of the symbol that is asked, also of one that is no winner; a strong one elsewhere is ahead of a weak one of its own object.
func TestRefsOfLosers(t *testing.T) {
	l := objects("f?:a a? b-", "f?:a,b a? b!", "f!:b,a a! c-")
	referred(t, "the first weak one", l, api.Place{Obj: 0, Sym: 0}, at(2, 1), "", api.OK)
	referred(t, "another weak one", l, api.Place{Obj: 1, Sym: 0}, at(2, 1, 1, 2), "", api.OK)
	referred(t, "the strong one", l, api.Place{Obj: 2, Sym: 0}, at(1, 2, 2, 1), "", api.OK)
	agrees(t, l)
}

// P12.3: relocations of both kinds, and as many as there may be.
func TestRefsMany(t *testing.T) {
	for _, kind := range []uint8{api.RelWord, api.RelHalf} {
		for _, n := range []int{1, 2, 255, 256, 257, 1023, 1024} {
			l := objects("f? s! g-", "f! g?")
			s := &l[0].Syms[1]
			var want []api.Place
			for i := range n {
				s.Rels = append(s.Rels, api.Rel{Off: uint32(4 * i), Kind: kind, Name: []string{"f", "g", "s"}[i%3], Add: math.MaxUint32 - uint32(i)})
				want = append(want, at(1, 0, 0, 2, 0, 1)[i%3])
			}
			s.Kind, s.Size, s.Bytes = api.SymData, 8192, strings.Repeat("x", 4*n)
			referred(t, fmt.Sprint(n, " relocations"), l, api.Place{Obj: 0, Sym: 1}, want, "", api.OK)
			s.Rels[n-1].Name = "none"
			referred(t, "the last one refers to none", l, api.Place{Obj: 0, Sym: 1}, nil, "none", api.ErrUndef)
		}
	}
}

// P12.3: places at which there is no symbol: that comes ahead of a name that refers to no symbol.
func TestRefsNowhere(t *testing.T) {
	for _, texts := range [][]string{nil, {""}, {"f!"}, {"f!:none"}, {"f!:f g-:none", "", "f?:none f.? g?"}, slices.Repeat([]string{"f?:none"}, 16)} {
		l := objects(texts...)
		for i := -2; i < len(l)+2; i++ {
			n := 0
			if 0 <= i && i < len(l) {
				n = len(l[i].Syms)
			}
			for _, j := range []int{math.MinInt, -1 << 32, -64, -2, -1, n, n + 1, n + 64, 1 << 32, math.MaxInt} {
				referred(t, fmt.Sprintf("%q", texts), l, api.Place{Obj: i, Sym: j}, nil, "", api.ErrArg)
			}
		}
		for _, i := range []int{math.MinInt, -1 << 32, -17, -1, len(l), len(l) + 1, 1 << 32, math.MaxInt} {
			for j := range 3 {
				referred(t, fmt.Sprintf("%q", texts), l, api.Place{Obj: i, Sym: j}, nil, "", api.ErrArg)
			}
		}
	}
}

// P12.3: a name that refers to no symbol: the first one of that symbol, and of no other one.
func TestRefsUndef(t *testing.T) {
	for _, c := range []struct{ word, name string }{
		{"s!:x", "x"}, {"s!:x,y", "x"}, {"s!:y,x", "y"}, {"s!:f,x", "x"}, {"s!:f,y,g,x,h", "y"}, {"s!:x,x", "x"},
		{"s!:l", "l"}, {"s!:f,m,l", "m"}, {"s?:s,x", "x"}, {"s-:s,x", "x"}, {"s!:ff", "ff"}, {"s-:" + strings.Repeat("s", 32), strings.Repeat("s", 32)},
	} {
		for _, l := range [][]api.Object{objects(c.word+" f- z!:z,q", "l-:w m-:l h? g!:v"), objects(c.word+" z?:q", "l-:w h! f!", "m-:m f? g?")} {
			referred(t, c.word, l, api.Place{Obj: 0, Sym: 0}, nil, c.name, api.ErrUndef)
			checked(t, c.word, l, "", api.OK)
			agrees(t, l)
		}
	}
	l := objects("s!:f,s g!:x", "f!:y")
	referred(t, "what is referred to is not asked in turn", l, api.Place{}, at(1, 0, 0, 0), "", api.OK)
	referred(t, "another one", l, api.Place{Obj: 0, Sym: 1}, nil, "x", api.ErrUndef)
	referred(t, "another one", l, api.Place{Obj: 1, Sym: 0}, nil, "y", api.ErrUndef)
	refused(t, "beside duplicates", objects("s!:x", "s!"), "s", api.ErrDup)
}

// P12.3: the local symbols and the winners, object by object.
func TestWinners(t *testing.T) {
	for _, c := range []struct {
		texts []string
		want  []api.Place
	}{
		{nil, nil},
		{[]string{""}, nil},
		{[]string{"", "", ""}, nil},
		{[]string{"f!"}, at(0, 0)},
		{[]string{"f?"}, at(0, 0)},
		{[]string{"f-"}, at(0, 0)},
		{[]string{"f-", "f-", "f-"}, at(0, 0, 1, 0, 2, 0)},
		{[]string{"f?", "f?", "f?"}, at(0, 0)},
		{[]string{"f?", "f!"}, at(1, 0)},
		{[]string{"f!", "f?"}, at(0, 0)},
		{[]string{"f?", "f?", "f!"}, at(2, 0)},
		{[]string{"f-", "f?", "f!"}, at(0, 0, 2, 0)},
		{[]string{"f-", "f?", "f-", "f?"}, at(0, 0, 1, 0, 2, 0)},
		{[]string{"f?", "f-", "f!", "f-", "f?"}, at(1, 0, 2, 0, 3, 0)},
		{[]string{"b? a! c-", "", "a? b! d? c?", "d! e-"}, at(0, 1, 0, 2, 2, 1, 2, 3, 3, 0, 3, 1)},
		{[]string{"z? y? x?", "x? y? z? w?"}, at(0, 0, 0, 1, 0, 2, 1, 3)},
		{[]string{"c! b- a?:none", "a! b! c-"}, at(0, 0, 0, 1, 1, 0, 1, 1, 1, 2)},
	} {
		won(t, fmt.Sprintf("%q", c.texts), objects(c.texts...), c.want, api.OK)
		agrees(t, objects(c.texts...))
	}
}

// greatest: as many objects as may be linked, each with as many symbols and these with as many relocations as there may be.
func greatest() []api.Object {
	var rels []api.Rel
	for i := range 1024 {
		rels = append(rels, api.Rel{Off: uint32(4 * i), Kind: api.RelWord, Name: fmt.Sprintf("n%d.%d", i/64, i%64)})
	}
	var l []api.Object
	for i := range 16 {
		o := api.Object{Name: "o"}
		for j := range 64 {
			o.Syms = append(o.Syms, api.Sym{Name: fmt.Sprintf("n%d.%d", i, j), Bind: uint8(1 + j%2), Kind: api.SymData, Size: 4096, Bytes: strings.Repeat("x", 4096), Rels: rels})
		}
		l = append(l, o)
	}
	return l
}

// P12.1 to P12.3: as much of everything as there may be.
func TestGreatest(t *testing.T) {
	l := greatest()
	all := places(l)
	checked(t, "the greatest", l, "", api.OK)
	won(t, "the greatest", l, all, api.OK)
	for _, p := range all[1000:] {
		found(t, "the greatest", l, 15-p.Obj, symAt(l, p).Name, p, api.OK)
	}
	for _, p := range at(0, 0, 7, 33, 15, 63) {
		referred(t, "the greatest", l, p, all, "", api.OK)
	}
	l[15].Syms[63].Name, l[15].Syms[63].Bind = "n0.0", api.BindStrong
	refused(t, "the last one strong as the first one is", l, "n0.0", api.ErrDup)
	l[15].Syms[63].Name = "N0"
	refused(t, "the last one not valid", l, "", api.ErrArg)
}

// world: three objects, in each of which the names a and b are bound as the signs say (a space: it is not there), in that order or b first; each symbol refers to both.
func world(signs [6]byte, turned [3]bool) []api.Object {
	var l []api.Object
	for i := range 3 {
		var words []string
		for j, name := range []string{"a", "b"} {
			if sign := signs[2*i+j]; sign != ' ' {
				words = append(words, name+string(sign)+":a,b")
			}
		}
		if turned[i] {
			slices.Reverse(words)
		}
		l = append(l, object(strings.Join(words, " ")))
	}
	return l
}

// worlds: all of them, to be ranged over.
func worlds(yield func([]api.Object) bool) {
	for n := range 1 << 12 {
		var signs [6]byte
		for i := range signs {
			signs[i] = " -!?"[n>>(2*i)&3]
		}
		for _, turned := range [][3]bool{{}, {true, false, true}, {true, true, true}} {
			if !yield(world(signs, turned)) {
				return
			}
		}
	}
}

// P12.1 to P12.3: all worlds.
func TestWorlds(t *testing.T) {
	for l := range worlds {
		agrees(t, l)
	}
}

// sameName: how many symbols with that name are bound so.
func sameName(l []api.Object, name string, bind uint8) int { return len(named(l, name, bind)) }

// P12.4: what a name refers to has that name; no other symbol with it is strong; it is a weak one only if none is strong, a local one only in its own object. This holds for each answer, whatever the model says.
func TestOneSymbol(t *testing.T) {
	answered := 0
	for l := range worlds {
		for from := -1; from < len(l); from++ {
			for _, name := range []string{"a", "b"} {
				p, e := Find(l, from, name)
				if e != api.OK {
					continue
				}
				answered++
				s := symAt(l, p)
				others := sameName(l, name, api.BindStrong)
				if s.Bind == api.BindStrong {
					others--
				}
				local, own := s.Bind == api.BindLocal, p.Obj == from
				if s.Name != name || !local && others != 0 || local && !own || others > 1 {
					t.Fatalf("Find(%s, %d, %s): %v, %v", brief(l), from, name, p, s)
				}
			}
		}
	}
	if answered < 20000 {
		t.Errorf("only %d names were resolved", answered)
	}
}

// without: the objects, where the local symbols of one are not local any more: they have names that nothing refers to.
func without(l []api.Object, from int) []api.Object {
	l = copies(l)
	for j := range l[from].Syms {
		if s := &l[from].Syms[j]; s.Bind == api.BindLocal {
			s.Name, s.Bind = fmt.Sprint("unnamed", j), api.BindWeak
		}
	}
	return l
}

// P12.4: what is local in an object changes nothing of what a name is from elsewhere, nor of what Check says.
func TestLocalElsewhere(t *testing.T) {
	for l := range worlds {
		name, e := Check(l...)
		for i := range l {
			changed := without(l, i)
			what := brief(changed)
			checked(t, what, changed, name, e)
			for from := -1; from < len(l); from++ {
				if from == i {
					continue
				}
				for _, name := range []string{"a", "b", "c"} {
					p, e := Find(l, from, name)
					found(t, what, changed, from, name, p, e)
				}
				if from >= 0 {
					for j := range l[from].Syms {
						p := api.Place{Obj: from, Sym: j}
						refs, name, e := Refs(l, p)
						referred(t, what, changed, p, refs, name, e)
					}
				}
			}
		}
	}
}

// P12.1 to P12.3: lists that are nil and such as are empty are the same (R4).
func TestNil(t *testing.T) {
	for _, l := range [][]api.Object{nil, {}} {
		checked(t, "no object", l, "", api.OK)
		won(t, "no object", l, nil, api.OK)
		found(t, "no object", l, -1, "f", api.Place{}, api.ErrUndef)
		found(t, "no object", l, 0, "f", api.Place{}, api.ErrArg)
		referred(t, "no object", l, api.Place{}, nil, "", api.ErrArg)
	}
	for _, syms := range [][]api.Sym{nil, {}} {
		l := []api.Object{{Name: "o", Syms: syms}}
		checked(t, "no symbol", l, "", api.OK)
		won(t, "no symbol", l, nil, api.OK)
		found(t, "no symbol", l, 0, "f", api.Place{}, api.ErrUndef)
		referred(t, "no symbol", l, api.Place{}, nil, "", api.ErrArg)
	}
	l := objects("f!")
	l[0].Syms[0].Rels, l[0].Syms[0].Notes = []api.Rel{}, []api.Note{}
	referred(t, "no relocation", l, api.Place{}, nil, "", api.OK)
	checked(t, "an object of nothing", make([]api.Object, 1), "", api.ErrArg)
}

// P12.1 to P12.3: what stands behind the ends of lists that are passed is neither read nor changed (R5).
func TestPassedUnchanged(t *testing.T) {
	all := objects("f! g-:f,g h?", "f? k!:h,f", "f! g!")
	l := all[:2]
	l[0].Syms, l[1].Syms[1].Rels = l[0].Syms[:2], l[1].Syms[1].Rels[:1]
	was, wasSyms, wasRels := copies(all), fmt.Sprint(all[0].Syms[:3]), fmt.Sprint(all[1].Syms[1].Rels[:2])
	checked(t, "parts of lists", l, "", api.OK)
	won(t, "parts of lists", l, at(0, 0, 0, 1, 1, 1), api.OK)
	found(t, "parts of lists", l, 1, "h", api.Place{}, api.ErrUndef)
	referred(t, "parts of lists", l, api.Place{Obj: 1, Sym: 1}, nil, "h", api.ErrUndef)
	referred(t, "parts of lists", l, api.Place{Obj: 0, Sym: 1}, at(0, 0, 0, 1), "", api.OK)
	refused(t, "the whole list", all, "f", api.ErrDup)
	if got := fmt.Sprint(all); got != fmt.Sprint(was) || fmt.Sprint(all[0].Syms[:3]) != wasSyms || fmt.Sprint(all[1].Syms[1].Rels[:2]) != wasRels {
		t.Errorf("what was passed is changed: %s", got)
	}
}

// P12.3: what Refs and Winners answer is new (R5), and the same each time (R6).
func TestAnswersNew(t *testing.T) {
	l := objects("f!:f,g g-", "g!")
	for range 3 {
		refs, _, _ := Refs(l, api.Place{})
		all, _ := Winners(l...)
		for _, list := range [][]api.Place{refs, all} {
			list = list[:cap(list)]
			for i := range list {
				list[i] = api.Place{Obj: 9, Sym: 9}
			}
		}
		referred(t, "again", l, api.Place{}, at(0, 0, 0, 1), "", api.OK)
		won(t, "again", l, at(0, 0, 0, 1, 1, 0), api.OK)
		found(t, "again", l, 0, "g", api.Place{Obj: 0, Sym: 1}, api.OK)
	}
}

// P12.1, P12.3: a name beside an error is memory of its own (R5): it keeps no great text of which the symbol's name is a piece.
func TestNamesOwnMemory(t *testing.T) {
	text := strings.Repeat("name", 1000)
	first := uintptr(unsafe.Pointer(unsafe.StringData(text)))
	l := objects("a!:b", "b!")
	l[0].Syms[0].Name, l[1].Syms[0].Name, l[0].Syms[0].Rels[0].Name = text[:8], text[8:16], text[16:20]
	dup, e := Check(l...)
	l[1].Syms[0].Bind = api.BindWeak
	_, undef, undefE := Refs(l, api.Place{})
	if dup != "namename" || e != api.ErrDup || undef != "name" || undefE != api.ErrUndef {
		t.Fatalf("Check: %q, %d; Refs: %q, %d", dup, e, undef, undefE)
	}
	for _, name := range []string{dup, undef} {
		if at := uintptr(unsafe.Pointer(unsafe.StringData(name))); at >= first && at < first+uintptr(len(text)) {
			t.Errorf("%q lies in the text", name)
		}
	}
}
