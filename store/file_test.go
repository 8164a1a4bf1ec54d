package store_test

import (
	"math/rand"
	"strings"
	"testing"

	"perigee/api"
	"perigee/store"
)

// S3, S4: what pages are together.
func TestFiles(t *testing.T) {
	a := func(gen, index int, last bool, b string) []byte { return piece(gen, "a", index, last, b) }
	version := func(gen, pages int, whole, gone bool) api.Version {
		return api.Version{Gen: gen, Pages: pages, Whole: whole, Gone: gone}
	}
	l := func(l ...api.Version) []api.Version { return l }
	for _, c := range []struct {
		name     string
		pages    [][]byte
		versions []api.Version
		file     string // "none": there is none
		live     []int
	}{
		{"nothing", nil, nil, "none", nil},
		{"one page", [][]byte{a(1, 0, true, "x")}, l(version(1, 1, true, false)), "x", []int{0}},
		{"an empty file", [][]byte{a(1, 0, true, "")}, l(version(1, 1, true, false)), "", []int{0}},
		{"three pages in any order", [][]byte{a(6, 1, false, "y"), a(7, 2, true, "z"), nil, a(5, 0, false, "x")}, l(version(5, 3, true, false)), "xyz", []int{0, 1, 3}},
		{"without the last one", [][]byte{a(5, 0, false, "x"), a(6, 1, false, "y")}, l(version(5, 2, false, false)), "none", nil},
		{"without the first one", [][]byte{a(6, 1, false, "y"), a(7, 2, true, "z")}, l(version(5, 2, false, false)), "none", nil},
		{"without one between", [][]byte{a(5, 0, false, "x"), a(7, 2, true, "z")}, l(version(5, 2, false, false)), "none", nil},
		{"two last ones", [][]byte{a(5, 0, true, "x"), a(6, 1, true, "y")}, l(version(5, 2, false, false)), "none", nil},
		{"a last one behind a gap", [][]byte{a(5, 0, true, "x"), a(7, 2, true, "z")}, l(version(5, 2, false, false)), "none", nil},
		{"another one behind the last one", [][]byte{a(5, 0, true, "x"), a(6, 1, false, "y")}, l(version(5, 2, true, false)), "x", []int{0, 1}},
		{"another one behind a gap", [][]byte{a(8, 3, false, "w"), a(5, 0, false, "x"), a(6, 1, true, "y")}, l(version(5, 3, true, false)), "xy", []int{0, 1, 2}},
		{"the greater one of two", [][]byte{a(9, 0, true, "new"), a(2, 0, true, "old")}, l(version(9, 1, true, false), version(2, 1, true, false)), "new", []int{0}},
		{"the greater one behind", [][]byte{a(2, 0, true, "old"), a(9, 0, true, "new")}, l(version(9, 1, true, false), version(2, 1, true, false)), "new", []int{1}},
		{"the greater one is not whole", [][]byte{a(9, 0, false, "new"), a(2, 0, true, "old")}, l(version(9, 1, false, false), version(2, 1, true, false)), "old", []int{1}},
		{"gen below 1", [][]byte{a(1, 3, true, "x"), a(3, 3, false, "y")}, l(version(0, 1, false, false), version(-2, 1, false, false)), "none", nil},
		{"gone, nothing else", [][]byte{gonePiece(4, "a")}, l(version(4, 1, true, true)), "none", nil},
		{"gone, and an older one", [][]byte{gonePiece(4, "a"), a(3, 0, true, "x")}, l(version(4, 1, true, true), version(3, 1, true, false)), "none", []int{0}},
		{"gone, and a piece of an older one", [][]byte{gonePiece(4, "a"), a(3, 1, true, "x")}, l(version(4, 1, true, true), version(2, 1, false, false)), "none", []int{0}},
		{"gone twice", [][]byte{gonePiece(4, "a"), gonePiece(5, "a")}, l(version(5, 1, true, true), version(4, 1, true, true)), "none", []int{1}},
		{"gone, and a newer piece", [][]byte{gonePiece(4, "a"), a(6, 0, false, "x")}, l(version(6, 1, false, false), version(4, 1, true, true)), "none", []int{0}},
		{"gone, and a newer one", [][]byte{gonePiece(4, "a"), a(6, 0, true, "x")}, l(version(6, 1, true, false), version(4, 1, true, true)), "x", []int{1}},
		{"gone, and a page of its own version", [][]byte{gonePiece(4, "a"), a(5, 1, false, "x")}, l(version(4, 2, true, true)), "none", nil},
		{"gone, and another last one", [][]byte{gonePiece(4, "a"), a(5, 1, true, "x"), a(1, 0, true, "old")}, l(version(4, 2, false, true), version(1, 1, true, false)), "old", []int{2}},
		{"gone, and other files", [][]byte{gonePiece(4, "a"), piece(3, "b", 0, true, "x"), nil, piece(5, "aa", 0, true, "x")}, l(version(4, 1, true, true)), "none", []int{1, 3}},
		{"twice the same", [][]byte{nil, a(1, 0, true, "x"), a(1, 0, true, "x")}, l(version(1, 1, true, false)), "x", []int{1}},
		{"twice with other bytes", [][]byte{a(1, 0, true, "x"), a(1, 0, true, "y")}, l(version(1, 1, true, false)), "x", []int{0}},
		{"one gen, two versions", [][]byte{a(5, 1, false, "x"), a(5, 0, true, "y"), a(4, 0, false, "w")}, l(version(4, 2, false, false)), "none", nil},
		{"one gen, gone behind", [][]byte{a(5, 0, true, "x"), gonePiece(5, "a")}, l(version(5, 1, true, false)), "x", []int{0}},
		{"one gen, another one that does not count", [][]byte{gonePiece(5, "a"), a(5, 1, true, "x")}, l(version(5, 1, true, true)), "none", nil},
		{"one gen, another name", [][]byte{piece(5, "b", 0, true, "x"), a(5, 0, true, "y")}, l(version(5, 1, true, false)), "y", []int{0, 1}},
		{"a torn one", [][]byte{a(1, 0, true, "old"), torn(a(2, 0, true, "new"), 63)}, l(version(1, 1, true, false)), "old", []int{0}},
		{"a damaged one", [][]byte{a(1, 0, true, "old"), damaged(a(2, 0, true, "new"), 99)}, l(version(1, 1, true, false)), "old", []int{0}},
		{"a damaged one before the same", [][]byte{damaged(a(2, 0, true, "new"), 99), a(2, 0, true, "new")}, l(version(2, 1, true, false)), "new", []int{1}},
		{"of a bad block", [][]byte{a(1, 0, true, "x"), nil, nil, nil, a(2, 0, true, "y"), gonePiece(3, "a")}, l(version(1, 1, true, false)), "x", []int{0}},
	} {
		for i, b := range c.pages {
			if b == nil {
				c.pages[i] = freePage(64)
			}
		}
		f := flashOf(2, 4, 64, c.pages...)
		f.Bad = []int{1}
		versions, fault := store.Versions(f, "a")
		wantFault(t, c.name, fault, api.OK)
		wantList(t, c.name+", versions", versions, c.versions)
		b, fault := store.ReadFile(f, "a")
		if c.file == "none" {
			wantFault(t, c.name, fault, api.ErrNone)
			wantList(t, c.name, b, nil)
		} else {
			wantFault(t, c.name, fault, api.OK)
			wantSame(t, c.name+", bytes", string(b), c.file)
		}
		live, fault := store.Live(f)
		wantFault(t, c.name, fault, api.OK)
		wantList(t, c.name+", live", live, c.live)
	}
}

func TestNames(t *testing.T) {
	f := flashOf(3, 4, 64,
		piece(9, "b", 0, true, "x"), piece(8, "~", 0, true, "x"), piece(7, "B", 0, true, ""), piece(6, "ab", 0, false, "x"),
		piece(7, "ab", 1, true, "x"), piece(5, "torn", 0, false, "x"), piece(4, "gone", 0, true, "x"), gonePiece(10, "gone"),
		piece(3, "bad", 0, true, "x"))
	f.Bad = []int{2}
	names, fault := store.Names(f)
	wantFault(t, "Names", fault, api.OK)
	wantList(t, "Names", names, []string{"B", "ab", "b", "~"})
	names, fault = store.Names(flashOf(1, 1, 64))
	wantFault(t, "Names of none", fault, api.OK)
	wantList(t, "Names of none", names, nil)
}

func TestRoom(t *testing.T) {
	x := piece(1, "a", 0, true, "x")
	long := strings.Repeat("n", api.MaxStored)
	bad := flashOf(3, 2, 64, x)
	bad.Bad = []int{1}
	for _, c := range []struct {
		name string
		f    api.Flash
		file string
		want int
	}{
		{"all", flashOf(2, 4, 64), "a", 8 * 48},
		{"a longer name", flashOf(2, 4, 64), "abc", 8 * 46},
		{"the longest name", flashOf(1, 1, 64), long, 17},
		{"without what is written", flashOf(2, 4, 64, x, torn(x, 1), damaged(x, 50)), "a", 5 * 48},
		{"without bad ones", bad, "b", 3 * 48},
		{"none", flashOf(1, 2, 64, x, x), "a", 0},
		{"most", flashOf(64, 4, 1024), "a", 256 * 1008},
	} {
		got, fault := store.Room(c.f, c.file)
		wantFault(t, c.name, fault, api.OK)
		wantSame(t, c.name, got, c.want)
	}
}

// TestNameFaults: S2 says what a name is.
func TestNameFaults(t *testing.T) {
	f := flashOf(1, 2, 64, piece(1, "a", 0, true, "x"))
	for _, name := range []string{"", strings.Repeat("n", api.MaxStored+1), "a b", "a ", "\n", "\x00", "\x7F", "\xFF", "ä", strings.Repeat("n", 1<<20)} {
		versions, fault := store.Versions(f, name)
		wantFault(t, "Versions", fault, api.ErrName)
		wantList(t, "Versions", versions, nil)
		b, fault := store.ReadFile(f, name)
		wantFault(t, "ReadFile", fault, api.ErrName)
		wantList(t, "ReadFile", b, nil)
		room, fault := store.Room(f, name)
		wantFault(t, "Room", fault, api.ErrName)
		wantSame(t, "Room", room, 0)
		for _, many := range []int{0, 1000} {
			x, done, fault := store.Write(f, name, make([]byte, many), -1)
			wantFault(t, "Write", fault, api.ErrName)
			wantFlash(t, "Write", x, api.Flash{})
			wantSame(t, "Write", done, false)
		}
		x, done, fault := store.Delete(f, name, -1)
		wantFault(t, "Delete", fault, api.ErrName)
		wantFlash(t, "Delete", x, api.Flash{})
		wantSame(t, "Delete", done, false)
	}
	for _, name := range []string{"!", "~", "/", strings.Repeat("n", api.MaxStored)} {
		versions, fault := store.Versions(f, name)
		wantFault(t, "Versions", fault, api.OK)
		wantList(t, "Versions", versions, nil)
		_, fault = store.ReadFile(f, name)
		wantFault(t, "ReadFile", fault, api.ErrNone)
		_, _, fault = store.Delete(f, name, -1)
		wantFault(t, "Delete", fault, api.ErrNone)
	}
}

// TestFilesAtRandom compares with the document's words.
func TestFilesAtRandom(t *testing.T) {
	r := rand.New(rand.NewSource(4))
	for range 3000 {
		f := randomFlash(r)
		for _, name := range []string{"a", "b", "ab", "c"} {
			versions, fault := store.Versions(f, name)
			wantFault(t, "Versions", fault, api.OK)
			wantList(t, "Versions", versions, versionsOf(f, name))
			b, fault := store.ReadFile(f, name)
			want, ok := fileOf(f, name)
			wantSame(t, "ReadFile", fault == api.OK, ok)
			wantList(t, "ReadFile", b, want)
		}
		names, fault := store.Names(f)
		wantFault(t, "Names", fault, api.OK)
		var want []string
		for _, name := range heldNames(f) {
			if _, ok := fileOf(f, name); ok {
				want = append(want, name)
			}
		}
		wantList(t, "Names", names, want)
		live, fault := store.Live(f)
		wantFault(t, "Live", fault, api.OK)
		wantList(t, "Live", live, liveOf(f))
	}
}
