package demand

import (
	"fmt"
	"maps"
	"math/rand"
	"slices"
	"testing"

	"aedicule/api"
)

const most = 1<<32 - 1

// bounds: between which a note's numbers are.
type bounds struct{ fromN, toN, fromM, toM int64 }

// noteBounds: those of each kind of notes, by its number.
var noteBounds = map[uint8]bounds{
	1: {0, 1024, 0, 0},
	2: {0, 15, 1, 1024},
	3: {1, 65535, 0, 0},
	4: {0, 0, 0, 0},
}

func within(v uint32, from, to int64) bool { return from <= int64(v) && int64(v) <= to }

// validNote: whether a symbol may have the note, by layer 8's chapter.
func validNote(n api.Note) bool {
	b, is := noteBounds[n.Kind]
	return is && within(n.N, b.fromN, b.toN) && within(n.M, b.fromM, b.toM)
}

// rising: whether the numbers are in ascending order, no two equal: just so are those of a set, when they are sorted.
func rising(l []uint32) bool {
	set := map[uint32]bool{}
	for _, n := range l {
		set[n] = true
	}
	return slices.Equal(l, slices.Sorted(maps.Keys(set)))
}

// validManifest: whether the manifest is valid, by the chapter.
func validManifest(m api.Manifest) bool {
	var ids, ports []uint32
	for _, x := range m.Extents {
		if !within(x.Id, 0, 15) || !within(x.Blocks, 1, 1024) {
			return false
		}
		ids = append(ids, x.Id)
	}
	for _, p := range m.Ports {
		ports = append(ports, uint32(p))
	}
	return within(m.Pages, 0, 1024) && rising(ids) && rising(ports) && !slices.Contains(ports, 0) && len(ports) <= 16
}

// thing: what may be demanded: a kind of notes, and which one of that kind (of pages and of the console always 0).
type thing struct {
	kind uint8
	n    uint32
}

// amounts: how much there is of each thing: so many pages, so many blocks of an extent, 1 of a port and of the console.
type amounts map[thing]uint32

// ofNote: the amounts of a valid note.
func ofNote(n api.Note) amounts {
	switch n.Kind {
	case 1:
		return amounts{{1, 0}: n.N}
	case 2:
		return amounts{{2, n.N}: n.M}
	}
	return amounts{{n.Kind, n.N}: 1}
}

// ofManifest: the amounts of a valid manifest.
func ofManifest(m api.Manifest) amounts {
	a := amounts{{1, 0}: m.Pages}
	for _, x := range m.Extents {
		a[thing{2, x.Id}] = x.Blocks
	}
	for _, p := range m.Ports {
		a[thing{3, uint32(p)}] = 1
	}
	if m.Console {
		a[thing{4, 0}] = 1
	}
	return a
}

// raise: each amount becomes what the other one is, if that is greater.
func (a amounts) raise(b amounts) {
	for x, n := range b {
		a[x] = max(a[x], n)
	}
}

// enough: whether none of the others' amounts is greater.
func (a amounts) enough(b amounts) bool {
	for x, n := range b {
		if a[x] < n {
			return false
		}
	}
	return true
}

// which: the numbers of the things of a kind, in ascending order.
func (a amounts) which(kind uint8) []uint32 {
	var l []uint32
	for x := range a {
		if x.kind == kind {
			l = append(l, x.n)
		}
	}
	slices.Sort(l)
	return l
}

// manifest: that with these amounts; ErrFull if it would have more than 16 ports.
func (a amounts) manifest() (api.Manifest, api.Errno) {
	m := api.Manifest{Pages: a[thing{1, 0}], Console: a[thing{4, 0}] > 0}
	for _, id := range a.which(2) {
		m.Extents = append(m.Extents, api.Extent{Id: id, Blocks: a[thing{2, id}]})
	}
	for _, p := range a.which(3) {
		m.Ports = append(m.Ports, uint16(p))
	}
	if len(m.Ports) > 16 {
		return api.Manifest{}, api.ErrFull
	}
	return m, api.OK
}

// modelAll: what Of and Union answer, by the chapter.
func modelAll[T any](l []T, valid func(T) bool, of func(T) amounts) (api.Manifest, api.Errno) {
	a := amounts{}
	for _, x := range l {
		if !valid(x) {
			return api.Manifest{}, api.ErrArg
		}
		a.raise(of(x))
	}
	return a.manifest()
}

// modelNotes: what Notes answers, by the chapter.
func modelNotes(m api.Manifest) []api.Note {
	var l []api.Note
	if !validManifest(m) {
		return nil
	}
	if m.Pages != 0 {
		l = append(l, pages(m.Pages))
	}
	for _, x := range m.Extents {
		l = append(l, extent(x.Id, x.Blocks))
	}
	for _, p := range m.Ports {
		l = append(l, port(uint32(p)))
	}
	if m.Console {
		l = append(l, console())
	}
	return l
}

func pages(n uint32) api.Note      { return api.Note{Kind: api.NotePages, N: n} }
func extent(id, n uint32) api.Note { return api.Note{Kind: api.NoteExtent, N: id, M: n} }
func port(p uint32) api.Note       { return api.Note{Kind: api.NotePort, N: p} }
func console() api.Note            { return api.Note{Kind: api.NoteConsole} }

// brief: what a test tells of something, shortened.
func brief(x any) string { return fmt.Sprintf("%.300s", fmt.Sprint(x)) }

// equal: whether two manifests are equal; a nil list is equal to an empty one.
func equal(a, b api.Manifest) bool {
	return a.Pages == b.Pages && a.Console == b.Console && slices.Equal(a.Extents, b.Extents) && slices.Equal(a.Ports, b.Ports)
}

// copyOf: an equal manifest that shares no list.
func copyOf(m api.Manifest) api.Manifest {
	m.Extents, m.Ports = slices.Clone(m.Extents), slices.Clone(m.Ports)
	return m
}

func copies(l []api.Manifest) []api.Manifest {
	var c []api.Manifest
	for _, m := range l {
		c = append(c, copyOf(m))
	}
	return c
}

// answers: that a manifest and an error are those.
func answers(t *testing.T, what string, m api.Manifest, e api.Errno, want api.Manifest, wantE api.Errno) {
	t.Helper()
	if !equal(m, want) || e != wantE {
		t.Fatalf("%s: %s, %d; want %s, %d", what, brief(m), e, brief(want), wantE)
	}
}

// says: that a bool is that.
func says(t *testing.T, what string, got, want bool) {
	t.Helper()
	if got != want {
		t.Fatalf("%s: %v; want %v", what, got, want)
	}
}

// ofAgrees: that Of answers what the model does, and leaves the notes as they are.
func ofAgrees(t *testing.T, what string, l ...api.Note) (api.Manifest, api.Errno) {
	t.Helper()
	was := slices.Clone(l)
	m, e := Of(l...)
	want, wantE := modelAll(l, validNote, ofNote)
	answers(t, what+": Of("+brief(l)+")", m, e, want, wantE)
	if !slices.Equal(l, was) {
		t.Fatalf("%s: Of changed the notes %s to %s", what, brief(was), brief(l))
	}
	return m, e
}

// unionAgrees: that Union answers what the model does, and leaves the manifests as they are.
func unionAgrees(t *testing.T, what string, l ...api.Manifest) (api.Manifest, api.Errno) {
	t.Helper()
	was := copies(l)
	m, e := Union(l...)
	want, wantE := modelAll(l, validManifest, ofManifest)
	answers(t, what+": Union("+brief(l)+")", m, e, want, wantE)
	if !slices.EqualFunc(l, was, equal) {
		t.Fatalf("%s: Union changed the manifests %s to %s", what, brief(was), brief(l))
	}
	return m, e
}

// coversAgrees: that Covers and Same say of two manifests what the model does, and leave them as they are.
func coversAgrees(t *testing.T, m, n api.Manifest) {
	t.Helper()
	was := copies([]api.Manifest{m, n})
	says(t, "Covers("+brief(m)+", "+brief(n)+")", Covers(m, n), validManifest(m) && validManifest(n) && ofManifest(m).enough(ofManifest(n)))
	says(t, "Same("+brief(m)+", "+brief(n)+")", Same(m, n), equal(m, n))
	if !equal(m, was[0]) || !equal(n, was[1]) {
		t.Fatalf("Covers or Same changed %s to %s, %s", brief(was), brief(m), brief(n))
	}
}

// noteAgrees: that Note says of a manifest and a note what the model does, and leaves the manifest as it is.
func noteAgrees(t *testing.T, m api.Manifest, n api.Note) {
	t.Helper()
	was := copyOf(m)
	says(t, "Note("+brief(m)+", "+brief(n)+")", Note(m, n), validManifest(m) && validNote(n) && ofManifest(m).enough(ofNote(n)))
	if !equal(m, was) {
		t.Fatalf("Note changed %s to %s", brief(was), brief(m))
	}
}

// manifestAgrees: that each function says of a manifest what the model does.
func manifestAgrees(t *testing.T, m api.Manifest) {
	t.Helper()
	was, want := copyOf(m), api.ErrArg
	if validManifest(m) {
		want = api.OK
	}
	if e := Check(m); e != want {
		t.Fatalf("Check(%s): %d; want %d", brief(m), e, want)
	}
	notes, wantNotes := Notes(m), modelNotes(m)
	if !slices.Equal(notes, wantNotes) {
		t.Fatalf("Notes(%s): %s; want %s", brief(m), brief(notes), brief(wantNotes))
	}
	for _, other := range []api.Manifest{{}, {Console: true}, plenty(), m} {
		coversAgrees(t, m, other)
		coversAgrees(t, other, m)
		unionAgrees(t, "two", m, other)
		unionAgrees(t, "two", other, m)
		unionAgrees(t, "three", other, m, other)
	}
	unionAgrees(t, "one", m)
	ofAgrees(t, "what Notes answers", notes...)
	for _, n := range append(notes, pages(0), pages(1), extent(0, 1), extent(15, 1024), port(1), port(65535), console()) {
		noteAgrees(t, m, n)
	}
	if !equal(m, was) {
		t.Fatalf("%s was changed to %s", brief(was), brief(m))
	}
}

// plenty: a manifest with as much as may be.
func plenty() api.Manifest {
	m := api.Manifest{Pages: 1024, Console: true, Ports: []uint16{65535}}
	for i := range uint32(16) {
		m.Extents = append(m.Extents, api.Extent{Id: i, Blocks: 1024})
	}
	for p := uint16(15); p > 0; p-- {
		m.Ports = slices.Insert(m.Ports, 0, p)
	}
	return m
}

// anyOf: one of the elements.
func anyOf[T any](random *rand.Rand, l ...T) T { return l[random.Intn(len(l))] }

// anyFrom: a number between the bounds, often one of them.
func anyFrom(random *rand.Rand, from, to int64) uint32 {
	return uint32(anyOf(random, from, to, from+random.Int63n(to-from+1)))
}

// anyNote: a note that is valid. Its port is often one of few, so that many notes have the same one.
func anyNote(random *rand.Rand) api.Note {
	kind := uint8(1 + random.Intn(4))
	b := noteBounds[kind]
	if kind == api.NotePort && random.Intn(20) > 0 {
		return port(uint32(1 + 257*random.Intn(30)))
	}
	return api.Note{Kind: kind, N: anyFrom(random, b.fromN, b.toN), M: anyFrom(random, b.fromM, b.toM)}
}

// anyManifest: a manifest that is valid.
func anyManifest(random *rand.Rand) api.Manifest {
	a := amounts{}
	for range random.Intn(60) {
		a.raise(ofNote(anyNote(random)))
	}
	m, _ := a.manifest()
	return m
}

// spoiledNote: the note with another number or kind: one that may be, or one that may not.
func spoiledNote(random *rand.Rand, n api.Note) api.Note {
	switch random.Intn(3) {
	case 0:
		n.Kind = uint8(random.Intn(6))
	case 1:
		n.N = anyOf(random, 0, 1, n.N+1, n.N-1, 15, 16, 1024, 1025, 65535, 65536, most)
	case 2:
		n.M = anyOf(random, 0, 1, n.M+1, 1024, 1025, most)
	}
	return n
}

// spoiled: the manifest with something else in it: that may be, or that may not.
func spoiled(random *rand.Rand, m api.Manifest) api.Manifest {
	m = copyOf(m)
	i, j := random.Intn(len(m.Extents)+1), random.Intn(len(m.Ports)+1)
	switch random.Intn(8) {
	case 0:
		m.Pages = anyOf(random, 0, 1, m.Pages+1, m.Pages-1, 1024, 1025, most)
	case 1:
		m.Extents = slices.Insert(m.Extents, i, api.Extent{Id: anyFrom(random, 0, 16), Blocks: anyFrom(random, 0, 1025)})
	case 2:
		m.Ports = slices.Insert(m.Ports, j, uint16(anyFrom(random, 0, 65535)))
	case 3:
		slices.Reverse(m.Extents)
	case 4:
		slices.Reverse(m.Ports)
	case 5:
		if i < len(m.Extents) {
			m.Extents[i].Blocks = anyOf(random, 0, 1, m.Extents[i].Blocks+1, 1024, 1025, most)
		}
	case 6:
		if i < len(m.Extents) {
			m.Extents[i].Id = anyOf(random, m.Extents[i].Id+1, m.Extents[i].Id-1, m.Extents[0].Id, 16, most)
		}
	case 7:
		if j < len(m.Ports) {
			m.Ports[j] = anyOf(random, m.Ports[j]+1, m.Ports[j]-1, m.Ports[0], 0)
		}
	}
	return m
}

// P11.1, P11.2: any manifests, with up to two things spoiled, each alone and some together; and any notes.
func TestAny(t *testing.T) {
	random := rand.New(rand.NewSource(11))
	count := map[api.Errno]int{}
	for range 3000 {
		var l []api.Manifest
		var notes []api.Note
		for range random.Intn(4) {
			m := anyManifest(random)
			for range anyOf(random, 0, 0, 0, 1, 1, 2) {
				m = spoiled(random, m)
			}
			manifestAgrees(t, m)
			l = append(l, m)
		}
		for range anyOf(random, 1, 4, 20, 100) {
			notes = append(notes, anyNote(random))
		}
		if i := random.Intn(5 * len(notes)); i < len(notes) {
			notes[i] = spoiledNote(random, notes[i])
		}
		_, e := unionAgrees(t, "any", l...)
		count[e]++
		_, e = ofAgrees(t, "any", notes...)
		count[e]++
		for _, m := range l {
			coversAgrees(t, m, l[0])
			coversAgrees(t, l[0], m)
			for _, n := range notes {
				noteAgrees(t, m, n)
			}
		}
	}
	if count[api.OK] < 2500 || count[api.ErrArg] < 1000 || count[api.ErrFull] < 500 {
		t.Errorf("too few answers of one sort: %v", count)
	}
}
