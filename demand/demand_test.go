package demand

import (
	"fmt"
	"math/rand"
	"slices"
	"testing"

	"aedicule/api"
)

// manifestIs: that a manifest is valid, or not, to each function.
func manifestIs(t *testing.T, what string, valid bool, m api.Manifest) {
	t.Helper()
	want, wantE := m, api.OK
	if !valid {
		want, wantE = api.Manifest{}, api.ErrArg
	}
	if e := Check(m); e != wantE {
		t.Fatalf("%s: Check(%s): %d; want %d", what, brief(m), e, wantE)
	}
	u, e := Union(m)
	answers(t, what+": Union", u, e, want, wantE)
	says(t, what+": it covers none", Covers(m, api.Manifest{}), valid)
	says(t, what+": it covers itself", Covers(m, m), valid)
	says(t, what+": it has no page", Note(m, pages(0)), valid)
	if l := Notes(m); !valid && len(l) != 0 {
		t.Fatalf("%s: Notes: %s; want none", what, brief(l))
	}
	manifestAgrees(t, m)
}

// extents: a manifest of extents of one block each.
func extents(ids ...uint32) api.Manifest {
	var m api.Manifest
	for _, id := range ids {
		m.Extents = append(m.Extents, api.Extent{Id: id, Blocks: 1})
	}
	return m
}

// blocks: a manifest of one extent of so many blocks.
func blocks(id, n uint32) api.Manifest {
	return api.Manifest{Extents: []api.Extent{{Id: id, Blocks: n}}}
}

func ports(l ...uint16) api.Manifest { return api.Manifest{Ports: l} }

// portsFrom: n ports, from one on, each so much above the one before.
func portsFrom(from, n, by int) api.Manifest {
	var m api.Manifest
	for i := range n {
		m.Ports = append(m.Ports, uint16(from+i*by))
	}
	return m
}

// notesOf: a note for each port of a manifest.
func notesOf(m api.Manifest) []api.Note {
	var l []api.Note
	for _, p := range m.Ports {
		l = append(l, port(uint32(p)))
	}
	return l
}

// permutations: all orders of a list.
func permutations[T any](l []T) [][]T {
	if len(l) == 0 {
		return [][]T{nil}
	}
	var all [][]T
	for i := range l {
		for _, rest := range permutations(slices.Concat(l[:i], l[i+1:])) {
			all = append(all, append([]T{l[i]}, rest...))
		}
	}
	return all
}

// badNotes: notes that are not valid.
func badNotes() []api.Note {
	return []api.Note{
		{}, {Kind: 5}, {Kind: 255, N: 1, M: 1}, {Kind: 0, N: 7},
		pages(1025), pages(65536), pages(most), {Kind: api.NotePages, N: 1, M: 1}, {Kind: api.NotePages, M: most},
		extent(16, 1), extent(most, 1), extent(0, 0), extent(15, 1025), extent(15, 65536+1), extent(256, 1),
		port(0), port(65536), port(65537), port(most), {Kind: api.NotePort, N: 7, M: 1},
		{Kind: api.NoteConsole, N: 1}, {Kind: api.NoteConsole, M: 1},
	}
}

// badManifests: manifests that are not valid, each for one reason.
func badManifests() []api.Manifest {
	m := plenty()
	m.Pages++
	return []api.Manifest{
		{Pages: 1025}, {Pages: 65536}, {Pages: most}, m,
		extents(16), extents(0, 16), extents(most), extents(256), extents(1, 0), extents(3, 3), extents(0, 1, 2, 1), extents(0, 1, 2, 2),
		blocks(0, 0), blocks(15, 1025), blocks(15, 65536), blocks(7, most), {Extents: []api.Extent{{Id: 0, Blocks: 5}, {Id: 0, Blocks: 6}}},
		{Extents: []api.Extent{{Id: 0, Blocks: 1}, {Id: 1}}}, {Extents: []api.Extent{{Id: 0}, {Id: 1, Blocks: 1}}},
		ports(0), ports(0, 1), ports(1, 0), ports(7, 7), ports(9, 7), ports(1, 3, 2), ports(1, 2, 2), portsFrom(1, 17, 1), portsFrom(1, 17, 4000),
	}
}

// P11.1: the chapter's example.
func TestExample(t *testing.T) {
	m, e := Of(extent(2, 3), port(9), extent(2, 5), port(7))
	answers(t, "the example", m, e, api.Manifest{Extents: []api.Extent{{Id: 2, Blocks: 5}}, Ports: []uint16{7, 9}}, api.OK)
}

// P11.1, P11.2: numbers of pages up to the limit, and beyond it; also such as some bytes would count as few.
func TestPages(t *testing.T) {
	for _, n := range []uint32{0, 1, 2, 255, 256, 1023, 1024} {
		manifestIs(t, fmt.Sprint(n, " pages"), true, api.Manifest{Pages: n})
		manifestIs(t, fmt.Sprint(n, " pages and more"), true, api.Manifest{Pages: n, Extents: extents(3).Extents, Ports: []uint16{8}, Console: true})
		m, e := Of(pages(n))
		answers(t, "a note of them", m, e, api.Manifest{Pages: n}, api.OK)
	}
	for _, n := range []uint32{1025, 1026, 2048, 65535, 65536, 65537, 1 << 24, 1 << 31, most} {
		manifestIs(t, fmt.Sprint(n, " pages"), false, api.Manifest{Pages: n})
		m, e := Of(pages(n))
		answers(t, "a note of them", m, e, api.Manifest{}, api.ErrArg)
	}
}

// P11.1, P11.2: extents with Ids and Blocks up to the limits, and beyond them: alone, as the first one, in between and as the last.
func TestExtents(t *testing.T) {
	bad := []uint32{16, 17, 255, 256, 257, 65536, 1 << 31, most}
	for _, id := range append([]uint32{0, 1, 7, 14, 15}, bad...) {
		for _, n := range []uint32{0, 1, 2, 1023, 1024, 1025, 65535, 65536, 65537, 1 << 31, most} {
			what, valid := fmt.Sprintf("extent %d of %d blocks", id, n), id < 16 && n >= 1 && n <= 1024
			manifestIs(t, what, valid, blocks(id, n))
			var l []api.Extent
			for _, x := range plenty().Extents {
				if x.Id != id {
					l = append(l, x)
				}
			}
			at, _ := find(l, id)
			manifestIs(t, what+" among all", valid, api.Manifest{Extents: slices.Insert(l, at, api.Extent{Id: id, Blocks: n})})
		}
	}
}

// P11.1, P11.2: extents in each order: of two each two Ids, of three and four all orders.
func TestExtentOrder(t *testing.T) {
	for a := range uint32(16) {
		for b := range uint32(16) {
			manifestIs(t, fmt.Sprint("extents ", a, b), a < b, extents(a, b))
		}
	}
	for _, ids := range [][]uint32{{0, 1, 2}, {5, 9, 15}, {0, 7, 8, 15}, {3, 3, 4}, {3, 4, 4}, {3, 3, 3}} {
		for _, l := range permutations(ids) {
			manifestIs(t, fmt.Sprint("extents ", l), rising(l), extents(l...))
		}
	}
	all := plenty().Extents
	manifestIs(t, "all extents", true, api.Manifest{Extents: all})
	for i := range all {
		manifestIs(t, "all but one", true, api.Manifest{Extents: slices.Delete(slices.Clone(all), i, i+1)})
		manifestIs(t, "one of all twice", false, api.Manifest{Extents: slices.Insert(slices.Clone(all), i, all[i])})
	}
	manifestIs(t, "one more than all", false, api.Manifest{Extents: append(all, api.Extent{Id: 16, Blocks: 1})})
}

// P11.1, P11.2: each port alone, 0 at any place, and ports in each order.
func TestPorts(t *testing.T) {
	for p := range 1 << 16 {
		m, e := Of(port(uint32(p)))
		if p == 0 {
			answers(t, "port 0", m, e, api.Manifest{}, api.ErrArg)
		} else {
			answers(t, fmt.Sprint("port ", p), m, e, ports(uint16(p)), api.OK)
		}
		if e := Check(ports(uint16(p))); (e == api.OK) != (p > 0) {
			t.Fatalf("Check of port %d: %d", p, e)
		}
	}
	for _, l := range [][]uint16{{0}, {0, 1}, {1, 0}, {0, 0}, {1, 0, 2}, {1, 2, 0}, {0, 1, 2}} {
		manifestIs(t, fmt.Sprint("ports ", l), false, ports(l...))
	}
	few := []uint16{1, 2, 255, 256, 257, 32767, 32768, 65534, 65535}
	for i, a := range few {
		manifestIs(t, fmt.Sprint("port ", a), true, ports(a))
		for j, b := range few {
			manifestIs(t, fmt.Sprint("ports ", a, b), i < j, ports(a, b))
			for k, c := range few {
				manifestIs(t, fmt.Sprint("ports ", a, b, c), i < j && j < k, ports(a, b, c))
			}
		}
	}
}

// P11.1, P11.2: as many ports as there may be, and more.
func TestManyPorts(t *testing.T) {
	for _, n := range []int{0, 1, 2, 8, 15, 16, 17, 18, 31, 32, 33, 255, 256, 257, 272} {
		for _, by := range []int{1, 2, 240} {
			for _, from := range []int{1, 65535 - (n-1)*by} {
				m := portsFrom(from, n, by)
				manifestIs(t, fmt.Sprint(n, " ports"), n <= 16, m)
				got, e := Of(notesOf(m)...)
				if n <= 16 {
					answers(t, fmt.Sprint("notes of ", n, " ports"), got, e, m, api.OK)
				} else {
					answers(t, fmt.Sprint("notes of ", n, " ports"), got, e, api.Manifest{}, api.ErrFull)
				}
			}
		}
	}
}

// P11.1: Of of no note, of one of each kind at its edges, of each two kinds and of all.
func TestOf(t *testing.T) {
	m, e := Of()
	answers(t, "no note", m, e, api.Manifest{}, api.OK)
	m, e = Of(console())
	answers(t, "the console", m, e, api.Manifest{Console: true}, api.OK)
	some := []api.Note{pages(0), pages(1), pages(1024), extent(0, 1), extent(15, 1024), extent(15, 7), port(1), port(65535), console()}
	for _, a := range some {
		ofAgrees(t, "one", a)
		for _, b := range some {
			ofAgrees(t, "two", a, b)
			for _, c := range some {
				ofAgrees(t, "three", a, b, c)
			}
		}
	}
	m, e = Of(some...)
	answers(t, "all", m, e, api.Manifest{Pages: 1024, Extents: []api.Extent{{Id: 0, Blocks: 1}, {Id: 15, Blocks: 1024}}, Ports: []uint16{1, 65535}, Console: true}, api.OK)
	for i := range 1024 {
		m, e = Of(pages(uint32(i+1)), extent(9, uint32(i+1)))
		answers(t, "pages and blocks", m, e, api.Manifest{Pages: uint32(i + 1), Extents: []api.Extent{{Id: 9, Blocks: uint32(i + 1)}}}, api.OK)
	}
}

// P11.1: the greatest Pages and the greatest Blocks first, last and in between: they are not added up.
func TestGreatest(t *testing.T) {
	for _, l := range permutations([]uint32{0, 1, 500, 600, 1024}) {
		var notes []api.Note
		var all []api.Manifest
		for _, n := range l {
			notes = append(notes, pages(n))
			all = append(all, api.Manifest{Pages: n})
		}
		m, e := Of(notes...)
		answers(t, fmt.Sprint("pages ", l), m, e, api.Manifest{Pages: 1024}, api.OK)
		m, e = Union(all...)
		answers(t, fmt.Sprint("pages ", l), m, e, api.Manifest{Pages: 1024}, api.OK)
	}
	for _, l := range permutations([]uint32{1, 2, 600, 700, 1023}) {
		var notes []api.Note
		var all []api.Manifest
		for i, n := range l {
			notes = append(notes, extent(3, n), extent(uint32(4+i), n), extent(2, 1024-n))
			all = append(all, api.Manifest{Extents: []api.Extent{{Id: 2, Blocks: 1024 - n}, {Id: 3, Blocks: n}, {Id: uint32(4 + i), Blocks: n}}})
		}
		want := api.Manifest{Extents: []api.Extent{{Id: 2, Blocks: 1023}, {Id: 3, Blocks: 1023}}}
		for i, n := range l {
			want.Extents = append(want.Extents, api.Extent{Id: uint32(4 + i), Blocks: n})
		}
		m, e := Of(notes...)
		answers(t, fmt.Sprint("blocks ", l), m, e, want, api.OK)
		m, e = Union(all...)
		answers(t, fmt.Sprint("blocks ", l), m, e, want, api.OK)
	}
}

// P11.1, P11.3: the same notes and manifests many times.
func TestManyTimes(t *testing.T) {
	for _, n := range []int{1, 2, 16, 17, 18, 255, 256, 257, 1024, 1025, 5000} {
		for _, one := range []api.Note{pages(0), pages(1), pages(1024), extent(0, 1), extent(15, 1024), port(1), port(65535), console()} {
			m, e := ofAgrees(t, "one note", slices.Repeat([]api.Note{one}, n)...)
			want, _ := Of(one)
			answers(t, fmt.Sprint(n, " times ", one), m, e, want, api.OK)
		}
		m, e := ofAgrees(t, "all notes", slices.Repeat(Notes(plenty()), n)...)
		answers(t, fmt.Sprint(n, " times all notes"), m, e, plenty(), api.OK)
		m, e = unionAgrees(t, "plenty", slices.Repeat([]api.Manifest{plenty(), {}}, n)...)
		answers(t, fmt.Sprint(n, " times plenty"), m, e, plenty(), api.OK)
		m, e = Union(make([]api.Manifest, n)...)
		answers(t, fmt.Sprint(n, " times nothing"), m, e, api.Manifest{}, api.OK)
	}
}

// P11.1: a note that is not valid, alone and at each place among others: also if there are too many ports.
func TestOfBad(t *testing.T) {
	for _, bad := range badNotes() {
		for _, others := range [][]api.Note{nil, {console()}, Notes(plenty()), notesOf(portsFrom(1, 17, 1)), notesOf(portsFrom(100, 40, 9)), {port(7), port(7)}} {
			for at := range len(others) + 1 {
				m, e := Of(slices.Insert(slices.Clone(others), at, bad)...)
				answers(t, fmt.Sprintf("%v at %d of %s", bad, at, brief(others)), m, e, api.Manifest{}, api.ErrArg)
			}
		}
	}
	for _, a := range badNotes() {
		for _, b := range badNotes() {
			m, e := Of(a, b)
			answers(t, fmt.Sprint(a, b), m, e, api.Manifest{}, api.ErrArg)
		}
	}
}

// P11.1: sixteen ports and seventeen, in any order, each once or more often, with other notes between them: nothing else of them is answered.
func TestOfFull(t *testing.T) {
	random := rand.New(rand.NewSource(1))
	for n := 14; n <= 20; n++ {
		for range 40 {
			want, wantE := portsFrom(1+random.Intn(1000), n, 1+random.Intn(3000)), api.OK
			l := slices.Concat(notesOf(want), notesOf(want)[:random.Intn(n)])
			for _, x := range []api.Note{pages(9), extent(4, 5), console()} {
				if random.Intn(2) == 0 {
					l = append(l, x)
				}
			}
			random.Shuffle(len(l), func(i, j int) { l[i], l[j] = l[j], l[i] })
			m, e := ofAgrees(t, "in any order", l...)
			if n > 16 {
				want, wantE = api.Manifest{}, api.ErrFull
			}
			if !slices.Equal(m.Ports, want.Ports) || e != wantE {
				t.Fatalf("%d ports: %s, %d; want %s, %d", n, brief(m), e, brief(want), wantE)
			}
		}
	}
	m, e := Of(slices.Concat(notesOf(portsFrom(1, 65535, 1)), notesOf(portsFrom(1, 65535, 1)))...)
	answers(t, "all ports twice", m, e, api.Manifest{}, api.ErrFull)
}

// P11.1: the union of no manifest, of one, of two that share nothing, something or all, and of several.
func TestUnion(t *testing.T) {
	m, e := Union()
	answers(t, "no manifest", m, e, api.Manifest{}, api.OK)
	a := api.Manifest{Pages: 3, Extents: []api.Extent{{Id: 1, Blocks: 9}, {Id: 4, Blocks: 2}, {Id: 15, Blocks: 1024}}, Ports: []uint16{7, 300}}
	b := api.Manifest{Pages: 2, Extents: []api.Extent{{Id: 0, Blocks: 1}, {Id: 1, Blocks: 8}, {Id: 4, Blocks: 3}}, Ports: []uint16{2, 7, 65535}, Console: true}
	c := api.Manifest{Pages: 4, Ports: []uint16{299}}
	for _, one := range []api.Manifest{{}, a, b, c, plenty()} {
		m, e = Union(one)
		answers(t, "one", m, e, one, api.OK)
	}
	want := api.Manifest{Pages: 3, Extents: []api.Extent{{Id: 0, Blocks: 1}, {Id: 1, Blocks: 9}, {Id: 4, Blocks: 3}, {Id: 15, Blocks: 1024}}, Ports: []uint16{2, 7, 300, 65535}, Console: true}
	for _, l := range [][]api.Manifest{{a, b}, {b, a}, {a, b, b, a, {}}, {{}, a, a, b}} {
		m, e = Union(l...)
		answers(t, "two", m, e, want, api.OK)
	}
	want.Pages, want.Ports = 4, []uint16{2, 7, 299, 300, 65535}
	for _, l := range permutations([]api.Manifest{a, b, c, {}}) {
		m, e = Union(l...)
		answers(t, "three", m, e, want, api.OK)
	}
	m, e = Union(api.Manifest{Console: true}, api.Manifest{})
	answers(t, "a console", m, e, api.Manifest{Console: true}, api.OK)
}

// P11.1: a manifest that is not valid, alone and at each place among others: also if there are too many ports.
func TestUnionBad(t *testing.T) {
	for _, bad := range badManifests() {
		for _, others := range [][]api.Manifest{nil, {{}}, {plenty(), {}}, {portsFrom(1, 16, 1), portsFrom(2, 16, 1)}, {portsFrom(1, 16, 1), portsFrom(100, 16, 1), portsFrom(200, 16, 1), {Pages: 3}}} {
			for at := range len(others) + 1 {
				m, e := Union(slices.Insert(slices.Clone(others), at, bad)...)
				answers(t, fmt.Sprintf("%s at %d of %s", brief(bad), at, brief(others)), m, e, api.Manifest{}, api.ErrArg)
			}
		}
		for _, other := range badManifests() {
			m, e := Union(bad, other)
			answers(t, fmt.Sprintf("%s and %s", brief(bad), brief(other)), m, e, api.Manifest{}, api.ErrArg)
		}
	}
}

// P11.1: sixteen ports and seventeen among several manifests, each in one or in more of them: nothing else of these is answered.
func TestUnionFull(t *testing.T) {
	for n := range 17 {
		for m := range 17 {
			a, b := portsFrom(1, n, 1), portsFrom(100, m, 1)
			a.Pages, b.Console, b.Extents = 4, true, extents(6).Extents
			for _, l := range [][]api.Manifest{{a, b}, {b, a}, {a, a, b, a, b}, {a, {}, b, portsFrom(1, n/2, 1), portsFrom(100, m/2, 1)}} {
				got, e := unionAgrees(t, "two", l...)
				if n+m <= 16 {
					answers(t, fmt.Sprint(n, " and ", m, " ports"), got, e, api.Manifest{Pages: 4, Extents: b.Extents, Ports: slices.Concat(a.Ports, b.Ports), Console: true}, api.OK)
				} else {
					answers(t, fmt.Sprint(n, " and ", m, " ports"), got, e, api.Manifest{}, api.ErrFull)
				}
			}
		}
	}
	var l []api.Manifest
	for p := uint16(65535); p > 65535-17; p-- {
		m, e := Union(l...)
		answers(t, fmt.Sprint(len(l), " manifests of a port"), m, e, portsFrom(65536-len(l), len(l), 1), api.OK)
		l = append(l, ports(p))
	}
	m, e := Union(l...)
	answers(t, "17 manifests of a port", m, e, api.Manifest{}, api.ErrFull)
	m, e = Union(append(l, ports(0))...)
	answers(t, "17 manifests of a port, and one that is not valid", m, e, api.Manifest{}, api.ErrArg)
}

// P11.2: a manifest covers just what it has, and not more by one; also not, if an extent or a port is not there.
func TestCovers(t *testing.T) {
	m := api.Manifest{Pages: 5, Extents: []api.Extent{{Id: 2, Blocks: 7}, {Id: 9, Blocks: 1024}, {Id: 15, Blocks: 1}}, Ports: []uint16{7, 9, 65535}, Console: true}
	none := api.Manifest{}
	for _, c := range []struct {
		m, n api.Manifest
		want bool
	}{
		{m, m, true}, {m, none, true}, {none, none, true}, {none, m, false}, {plenty(), m, true}, {m, plenty(), false},
		{m, api.Manifest{Pages: 4}, true}, {m, api.Manifest{Pages: 5}, true}, {m, api.Manifest{Pages: 6}, false}, {none, api.Manifest{Pages: 1}, false},
		{m, blocks(2, 6), true}, {m, blocks(2, 7), true}, {m, blocks(2, 8), false}, {m, blocks(9, 1024), true}, {m, blocks(15, 1), true}, {m, blocks(15, 2), false},
		{m, blocks(0, 1), false}, {m, blocks(1, 1), false}, {m, blocks(3, 1), false}, {m, blocks(8, 1), false}, {m, blocks(10, 1), false}, {m, blocks(14, 1), false}, {none, blocks(0, 1), false},
		{m, extents(2, 9), true}, {m, extents(2, 15), true}, {m, extents(2, 9, 15), true}, {m, extents(2, 9, 10), false}, {m, extents(1, 2, 9), false},
		{m, ports(7), true}, {m, ports(9), true}, {m, ports(65535), true}, {m, ports(7, 65535), true}, {m, ports(7, 9, 65535), true},
		{m, ports(1), false}, {m, ports(6), false}, {m, ports(8), false}, {m, ports(10), false}, {m, ports(65534), false}, {m, ports(7, 8), false}, {m, ports(8, 9), false}, {m, ports(7, 9, 10, 65535), false}, {none, ports(1), false},
		{m, api.Manifest{Console: true}, true}, {none, api.Manifest{Console: true}, false}, {api.Manifest{Console: true}, none, true}, {plenty(), api.Manifest{Console: true}, true},
		{blocks(3, 9), ports(3), false}, {ports(3), blocks(3, 1), false}, {api.Manifest{Pages: 9}, api.Manifest{Console: true}, false},
	} {
		says(t, "Covers("+brief(c.m)+", "+brief(c.n)+")", Covers(c.m, c.n), c.want)
		coversAgrees(t, c.m, c.n)
	}
	for i := range plenty().Extents {
		n := plenty()
		n.Extents[i].Blocks--
		says(t, "a block less is covered", Covers(plenty(), n), true)
		says(t, "a block less covers", Covers(n, plenty()), false)
		n.Extents = slices.Delete(n.Extents, i, i+1)
		says(t, "an extent less is covered", Covers(plenty(), n), true)
		says(t, "an extent less covers", Covers(n, plenty()), false)
	}
	for i := range plenty().Ports {
		n := plenty()
		n.Ports = slices.Delete(n.Ports, i, i+1)
		says(t, "a port less is covered", Covers(plenty(), n), true)
		says(t, "a port less covers", Covers(n, plenty()), false)
	}
}

// P11.2: a manifest that is not valid covers nothing, and is covered by none.
func TestCoversBad(t *testing.T) {
	for _, bad := range badManifests() {
		for _, m := range append(badManifests(), api.Manifest{}, plenty(), bad) {
			says(t, "Covers("+brief(m)+", "+brief(bad)+")", Covers(m, bad), false)
			says(t, "Covers("+brief(bad)+", "+brief(m)+")", Covers(bad, m), false)
		}
		for _, n := range slices.Concat(badNotes(), Notes(plenty()), []api.Note{pages(0), pages(1), extent(0, 1), extent(3, 1), port(7)}) {
			says(t, "Note("+brief(bad)+", "+brief(n)+")", Note(bad, n), false)
		}
	}
}

// P11.2: a note of each kind, with just enough, too little by one, and none of it.
func TestNote(t *testing.T) {
	m := api.Manifest{Pages: 5, Extents: []api.Extent{{Id: 2, Blocks: 7}, {Id: 9, Blocks: 1024}, {Id: 15, Blocks: 1}}, Ports: []uint16{7, 9, 65535}, Console: true}
	none := api.Manifest{}
	for _, c := range []struct {
		m    api.Manifest
		n    api.Note
		want bool
	}{
		{m, pages(0), true}, {m, pages(4), true}, {m, pages(5), true}, {m, pages(6), false}, {m, pages(1024), false}, {none, pages(0), true}, {none, pages(1), false},
		{plenty(), pages(1024), true}, {plenty(), pages(1025), false},
		{m, extent(2, 1), true}, {m, extent(2, 7), true}, {m, extent(2, 8), false}, {m, extent(9, 1024), true}, {m, extent(9, 1025), false}, {m, extent(15, 1), true}, {m, extent(15, 2), false},
		{m, extent(0, 1), false}, {m, extent(1, 1), false}, {m, extent(3, 1), false}, {m, extent(10, 1), false}, {m, extent(14, 1), false}, {m, extent(16, 1), false}, {m, extent(2, 0), false}, {m, extent(3, 0), false}, {none, extent(0, 1), false},
		{m, port(7), true}, {m, port(9), true}, {m, port(65535), true}, {m, port(6), false}, {m, port(8), false}, {m, port(10), false}, {m, port(65534), false}, {m, port(0), false}, {m, port(65536 + 7), false}, {none, port(1), false},
		{m, console(), true}, {none, console(), false}, {plenty(), console(), true},
		{api.Manifest{Pages: 1024, Extents: plenty().Extents, Ports: plenty().Ports}, console(), false},
	} {
		says(t, "Note("+brief(c.m)+", "+brief(c.n)+")", Note(c.m, c.n), c.want)
		noteAgrees(t, c.m, c.n)
	}
	for _, n := range badNotes() {
		for _, m := range []api.Manifest{none, m, plenty()} {
			says(t, "Note("+brief(m)+", "+brief(n)+")", Note(m, n), false)
		}
	}
	for _, n := range Notes(plenty()) {
		says(t, "a note of plenty", Note(plenty(), n), true)
		says(t, "a note of plenty to none", Note(none, n), false)
	}
}

// P11.2: the notes of manifests, in the chapter's order.
func TestNotes(t *testing.T) {
	for _, c := range []struct {
		m    api.Manifest
		want []api.Note
	}{
		{api.Manifest{}, nil},
		{api.Manifest{Extents: []api.Extent{}, Ports: []uint16{}}, nil},
		{api.Manifest{Pages: 1}, []api.Note{{Kind: 1, N: 1}}},
		{api.Manifest{Console: true}, []api.Note{{Kind: 4}}},
		{blocks(0, 1), []api.Note{{Kind: 2, N: 0, M: 1}}},
		{ports(65535), []api.Note{{Kind: 3, N: 65535}}},
		{
			api.Manifest{Pages: 1024, Extents: []api.Extent{{Id: 0, Blocks: 1024}, {Id: 15, Blocks: 1}}, Ports: []uint16{1, 2, 65535}, Console: true},
			[]api.Note{{Kind: 1, N: 1024}, {Kind: 2, N: 0, M: 1024}, {Kind: 2, N: 15, M: 1}, {Kind: 3, N: 1}, {Kind: 3, N: 2}, {Kind: 3, N: 65535}, {Kind: 4}},
		},
	} {
		if got := Notes(c.m); !slices.Equal(got, c.want) {
			t.Errorf("Notes(%s): %s; want %s", brief(c.m), brief(got), brief(c.want))
		}
		m, e := Of(Notes(c.m)...)
		answers(t, "Of what Notes answers", m, e, c.m, api.OK)
	}
	if l := Notes(plenty()); len(l) != 34 {
		t.Errorf("plenty has %d notes; want 34", len(l))
	}
	for _, m := range badManifests() {
		if l := Notes(m); len(l) != 0 {
			t.Errorf("Notes(%s): %s; want none", brief(m), brief(l))
		}
	}
}

// P11.2: two manifests are the same field by field, whether they are valid or not.
func TestSame(t *testing.T) {
	full := api.Manifest{Pages: 5, Extents: []api.Extent{{Id: 2, Blocks: 7}, {Id: 9, Blocks: 1}}, Ports: []uint16{7, 9}, Console: true}
	l := []api.Manifest{{}, full, plenty(), {Pages: 1}, {Console: true}, blocks(0, 1), blocks(1, 1), blocks(0, 2), blocks(2, 1), extents(0, 1), extents(1, 0), ports(1), ports(2), ports(1, 2), ports(2, 1)}
	for i, change := range []func(m *api.Manifest){
		func(m *api.Manifest) { m.Pages++ },
		func(m *api.Manifest) { m.Pages += 65536 },
		func(m *api.Manifest) { m.Extents[0].Id++ },
		func(m *api.Manifest) { m.Extents[1].Id++ },
		func(m *api.Manifest) { m.Extents[0].Blocks++ },
		func(m *api.Manifest) { m.Extents[1].Blocks += 256 },
		func(m *api.Manifest) { m.Extents = m.Extents[:1] },
		func(m *api.Manifest) { m.Extents = m.Extents[1:] },
		func(m *api.Manifest) { m.Extents = nil },
		func(m *api.Manifest) { m.Extents = append(m.Extents, api.Extent{}) },
		func(m *api.Manifest) { slices.Reverse(m.Extents) },
		func(m *api.Manifest) { m.Ports[0]++ },
		func(m *api.Manifest) { m.Ports[1] += 256 },
		func(m *api.Manifest) { m.Ports = m.Ports[:1] },
		func(m *api.Manifest) { m.Ports = m.Ports[1:] },
		func(m *api.Manifest) { m.Ports = nil },
		func(m *api.Manifest) { m.Ports = append(m.Ports, 0) },
		func(m *api.Manifest) { slices.Reverse(m.Ports) },
		func(m *api.Manifest) { m.Console = false },
	} {
		m := copyOf(full)
		change(&m)
		says(t, fmt.Sprint("full and changed ", i), Same(full, m), false)
		l = append(l, m)
	}
	l = append(l, badManifests()...)
	for i, a := range l {
		for j, b := range copies(l) {
			says(t, "Same("+brief(a)+", "+brief(b)+")", Same(a, b), i == j || equal(a, b))
		}
	}
}

// few: all manifests of a few things, each with few amounts.
func few() []api.Manifest {
	var l []api.Manifest
	for i := range 144 {
		a := amounts{{1, 0}: uint32(i % 3)}
		for x, n := range map[thing]int{{2, 0}: i / 3 % 3, {2, 15}: i / 9 % 2, {3, 7}: i / 18 % 2, {3, 65535}: i / 36 % 2, {4, 0}: i / 72} {
			if n > 0 {
				a[x] = uint32(n)
			}
		}
		m, _ := a.manifest()
		l = append(l, m)
	}
	return l
}

// P11.3: of each two of a few manifests the union covers both, and each that covers both covers it.
func TestLeast(t *testing.T) {
	l := few()
	for _, a := range l {
		for _, b := range l {
			u, e := unionAgrees(t, "two of few", a, b)
			if e != api.OK || !Covers(u, a) || !Covers(u, b) {
				t.Fatalf("the union of %v and %v: %v, %d", a, b, u, e)
			}
			coversAgrees(t, a, b)
		}
	}
	for i, a := range l {
		for _, b := range l[i:] {
			u, _ := Union(a, b)
			for _, c := range l {
				if both, it := Covers(c, a) && Covers(c, b), Covers(c, u); both != it {
					t.Fatalf("%v covers %v and %v: %v; it covers %v: %v", c, a, b, both, u, it)
				}
			}
		}
	}
}

// P11.3: the union of any manifests covers each; less of anything that it has does not cover them all.
func TestLess(t *testing.T) {
	random := rand.New(rand.NewSource(3))
	for range 2000 {
		var l []api.Manifest
		for range 1 + random.Intn(4) {
			l = append(l, anyManifest(random))
		}
		u, e := Union(l...)
		if e != api.OK {
			continue
		}
		coversAll := func(m api.Manifest) bool {
			return !slices.ContainsFunc(l, func(n api.Manifest) bool { return !Covers(m, n) })
		}
		says(t, "the union covers all", coversAll(u), true)
		for x := range ofManifest(u) {
			a := ofManifest(u)
			if a[x] == 0 {
				continue // the pages of one that has none
			}
			a[x]--
			if a[x] == 0 {
				delete(a, x)
			}
			m, _ := a.manifest()
			says(t, fmt.Sprintf("%s, less than %s, covers all", brief(m), brief(u)), coversAll(m), false)
		}
	}
}

// P11.3: notes and manifests in any order, each any number of times, have the same manifest.
func TestOrderAndNumber(t *testing.T) {
	for _, l := range permutations([]api.Note{pages(3), pages(4), extent(1, 2), extent(1, 5), extent(0, 9), port(7), console()}) {
		m, e := Of(l...)
		answers(t, "any order", m, e, api.Manifest{Pages: 4, Extents: []api.Extent{{Id: 0, Blocks: 9}, {Id: 1, Blocks: 5}}, Ports: []uint16{7}, Console: true}, api.OK)
	}
	for _, l := range permutations([]api.Note{port(65535), port(1), extent(15, 1), extent(14, 1), port(256), port(255), extent(3, 1)}) {
		m, e := Of(l...)
		answers(t, "any order", m, e, api.Manifest{Extents: extents(3, 14, 15).Extents, Ports: []uint16{1, 255, 256, 65535}}, api.OK)
	}
	random := rand.New(rand.NewSource(4))
	for range 1000 {
		var notes []api.Note
		var all []api.Manifest
		for range 1 + random.Intn(40) {
			n := anyNote(random)
			notes = append(notes, n)
			m, _ := Of(n)
			all = append(all, m)
		}
		want, wantE := Of(notes...)
		m, e := Union(all...)
		answers(t, "the union of the single notes' manifests", m, e, want, wantE)
		for range 4 {
			notes = append(notes, notes[random.Intn(len(notes))])
			random.Shuffle(len(notes), func(i, j int) { notes[i], notes[j] = notes[j], notes[i] })
			m, e = Of(notes...)
			answers(t, "shuffled", m, e, want, wantE)
		}
		random.Shuffle(len(all), func(i, j int) { all[i], all[j] = all[j], all[i] })
		m, e = Union(append(all, all[0])...)
		answers(t, "shuffled", m, e, want, wantE)
	}
}

// roomy: an equal list with room behind its end, and all of that memory.
func roomy[T any](l []T) ([]T, []T) {
	all := append(slices.Clone(l), make([]T, 5)...)
	return all[:len(l)], all
}

// fill: another element in all of the list, also behind its end.
func fill[T any](l []T, with T) {
	l = l[:cap(l)]
	for i := range l {
		l[i] = with
	}
}

// fillManifest: other elements in the manifest's lists.
func fillManifest(m api.Manifest) {
	fill(m.Extents, api.Extent{Id: 77, Blocks: 77})
	fill(m.Ports, 777)
}

// P11.1, P11.2: what is passed is as it was (R5), also behind the lists' ends, whether it is valid or not.
func TestPassedUnchanged(t *testing.T) {
	for _, m := range append(badManifests(), api.Manifest{}, plenty(), extents(3, 9), ports(9, 4000)) {
		one, other := m, plenty()
		var allExtents []api.Extent
		var allPorts []uint16
		one.Extents, allExtents = roomy(m.Extents)
		one.Ports, allPorts = roomy(m.Ports)
		list, allList := roomy([]api.Manifest{one, {Pages: 3, Console: true}, other, one})
		notes, allNotes := roomy([]api.Note{port(4), extent(2, 2), pages(2), port(3), console(), extent(1, 5)})
		wasExtents, wasPorts, wasNotes := slices.Clone(allExtents), slices.Clone(allPorts), slices.Clone(allNotes)
		wasList := copies(allList)
		for range 2 {
			Check(one)
			Union(list...)
			Union(list[:2]...)
			Of(notes...)
			Of(notes[:3]...)
			Covers(one, other)
			Covers(other, one)
			Note(one, notes[1])
			Notes(one)
			Same(one, other)
		}
		if !slices.Equal(allExtents, wasExtents) || !slices.Equal(allPorts, wasPorts) || !slices.Equal(allNotes, wasNotes) || !slices.EqualFunc(allList, wasList, equal) {
			t.Errorf("what was passed is changed: %v, %v, %v, %s", allExtents, allPorts, allNotes, brief(allList))
		}
	}
}

// P11.1, P11.2: what is answered is new (R5): filled with other values, it changes neither what was passed nor another answer; and what was passed, filled, changes no answer.
func TestAnsweredNew(t *testing.T) {
	for _, m := range []api.Manifest{plenty(), extents(3, 9), ports(9, 4000), {Pages: 3, Extents: blocks(4, 4).Extents, Ports: []uint16{44}}} {
		passed, wantNotes := copyOf(m), modelNotes(m)
		notes := slices.Clone(wantNotes)
		keptUnion, _ := Union(passed)
		keptTwo, _ := Union(passed, passed)
		keptOf, _ := Of(notes...)
		keptNotes := Notes(passed)
		for range 2 {
			u, _ := Union(passed)
			fillManifest(u)
			u, _ = Union(api.Manifest{}, passed, api.Manifest{Pages: 1})
			fillManifest(u)
			o, _ := Of(notes...)
			fillManifest(o)
			fill(Notes(passed), api.Note{Kind: 9})
			if !equal(passed, m) || !slices.Equal(notes, wantNotes) {
				t.Fatalf("an answer is memory of what was passed: %s, %s", brief(passed), brief(notes))
			}
		}
		fillManifest(passed)
		fill(notes, api.Note{Kind: 8})
		if !equal(keptUnion, m) || !equal(keptTwo, m) || !equal(keptOf, m) || !slices.Equal(keptNotes, wantNotes) {
			t.Errorf("an answer is changed: %s, %s, %s, %s", brief(keptUnion), brief(keptTwo), brief(keptOf), brief(keptNotes))
		}
		manifestIs(t, "the same again", true, m)
	}
}

// P11.1, P11.2: lists that are nil and lists that are empty are the same (R4), and what is zero is valid.
func TestNil(t *testing.T) {
	var empty []api.Manifest
	for _, x := range [][]api.Extent{nil, {}} {
		for _, p := range [][]uint16{nil, {}} {
			empty = append(empty, api.Manifest{Extents: x, Ports: p})
			manifestIs(t, "neither extents nor ports", true, api.Manifest{Pages: 7, Extents: x, Ports: p, Console: true})
		}
		manifestIs(t, "no extents", true, api.Manifest{Extents: x, Ports: []uint16{7}})
	}
	for _, p := range [][]uint16{nil, {}} {
		manifestIs(t, "no ports", true, api.Manifest{Extents: extents(3).Extents, Ports: p})
	}
	for _, a := range empty {
		manifestIs(t, "empty", true, a)
		for _, b := range empty {
			says(t, "empty ones are the same", Same(a, b), true)
			says(t, "an empty one covers another", Covers(a, b), true)
		}
		says(t, "a nonempty one is another", Same(a, ports(1)) || Same(extents(1), a), false)
	}
	for _, l := range [][]api.Note{nil, {}} {
		m, e := Of(l...)
		answers(t, "no notes", m, e, api.Manifest{}, api.OK)
	}
	for _, l := range [][]api.Manifest{nil, {}} {
		m, e := Union(l...)
		answers(t, "no manifests", m, e, api.Manifest{}, api.OK)
	}
}

// P11.1, P11.2: manifests with very long lists end, and are not valid.
func TestLong(t *testing.T) {
	m := api.Manifest{}
	for i := range uint32(1 << 20) {
		m.Extents = append(m.Extents, api.Extent{Id: i, Blocks: 1})
		m.Ports = append(m.Ports, uint16(i+1))
	}
	for _, m := range []api.Manifest{m, {Extents: m.Extents}, {Ports: m.Ports}, {Ports: m.Ports[:65535]}, {Ports: make([]uint16, 1<<20)}, {Extents: make([]api.Extent, 1<<20)}} {
		if e := Check(m); e != api.ErrArg {
			t.Errorf("Check of %d extents and %d ports: %d; want ErrArg", len(m.Extents), len(m.Ports), e)
		}
		u, e := Union(plenty(), m)
		answers(t, "a long one", u, e, api.Manifest{}, api.ErrArg)
		says(t, "a long one is covered, or covers", Covers(plenty(), m) || Covers(m, plenty()) || Note(m, port(1)), false)
		if l := Notes(m); len(l) != 0 {
			t.Errorf("a long one has %d notes", len(l))
		}
	}
}
