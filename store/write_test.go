package store_test

import (
	"math"
	"math/rand"
	"strings"
	"testing"

	"perigee/api"
	"perigee/store"
)

// wantWritten compares what became of a flash with what was to become of it.
func wantWritten(t *testing.T, name string, got, want api.Flash, done, wantDone bool, fault, wantedFault api.Fault) {
	t.Helper()
	wantFault(t, name, fault, wantedFault)
	wantSame(t, name+", done", done, wantDone)
	wantFlash(t, name, got, want)
}

// S5.
func TestWrite(t *testing.T) {
	x := piece(3, "x", 0, true, "x")
	some := strings.Repeat("0123456789", 20)
	worn := flashOf(3, 2, 64, freePage(64), x)
	worn.Wear = []int{2, 1, 0}
	bad := flashOf(3, 2, 64, x, freePage(64), piece(90, "bad", 0, true, "x"))
	bad.Bad = []int{1}
	for _, c := range []struct {
		name  string
		f     api.Flash
		file  string
		b     string
		want  map[int][]byte // what is new in which pages
		power int            // what it takes
	}{
		{"empty", flashOf(2, 2, 64), "a", "", map[int][]byte{0: piece(1, "a", 0, true, "")}, 64},
		{"one byte", flashOf(2, 2, 64, x), "a", "y", map[int][]byte{1: piece(4, "a", 0, true, "y")}, 64},
		{"a full page", flashOf(2, 2, 64), "a", some[:48], map[int][]byte{0: piece(1, "a", 0, true, some[:48])}, 64},
		{"a byte more", flashOf(2, 2, 64), "a", some[:49], map[int][]byte{0: piece(1, "a", 0, false, some[:48]), 1: piece(2, "a", 1, true, some[48:49])}, 128},
		{"a longer name", flashOf(2, 2, 64), "abc", some[:48], map[int][]byte{0: piece(1, "abc", 0, false, some[:46]), 1: piece(2, "abc", 1, true, some[46:48])}, 128},
		{"all there is", flashOf(2, 2, 64), "a", some[:192], map[int][]byte{0: piece(1, "a", 0, false, some[:48]), 1: piece(2, "a", 1, false, some[48:96]), 2: piece(3, "a", 2, false, some[96:144]), 3: piece(4, "a", 3, true, some[144:192])}, 256},
		{"by wear", worn, "a", some[:190], map[int][]byte{4: piece(4, "a", 0, false, some[:48]), 5: piece(5, "a", 1, false, some[48:96]), 2: piece(6, "a", 2, false, some[96:144]), 3: piece(7, "a", 3, true, some[144:190])}, 256},
		{"not to bad ones", bad, "a", some[:60], map[int][]byte{1: piece(4, "a", 0, false, some[:48]), 4: piece(5, "a", 1, true, some[48:60])}, 128},
		{"over the same name", flashOf(1, 3, 64, x), "x", "y", map[int][]byte{1: piece(4, "x", 0, true, "y")}, 64},
	} {
		want := copyOf(c.f)
		for i, b := range c.want {
			copy(bytesOf(want, i), b)
		}
		for _, power := range []int{-1, math.MinInt, c.power, c.power + 1, math.MaxInt} {
			got, done, fault := store.Write(c.f, c.file, []byte(c.b), power)
			wantWritten(t, c.name, got, want, done, true, fault, api.OK)
		}
		b, fault := store.ReadFile(want, c.file)
		wantFault(t, c.name, fault, api.OK)
		wantSame(t, c.name, string(b), c.b)
		got, done, fault := store.Write(c.f, c.file, []byte(c.b), 0)
		wantWritten(t, c.name+", no power", got, c.f, done, false, fault, api.OK)
		got, done, fault = store.Write(c.f, c.file, []byte(c.b), c.power-1)
		_, ended, _ := writtenOf(c.f, c.file, c.b, c.power-1)
		wantSame(t, c.name+", a byte less", []any{done, fault, ended}, []any{false, api.OK, false})
		states, _ := store.States(got)
		torn := 0
		for _, state := range states {
			if state == api.PageTorn {
				torn++
			}
		}
		wantSame(t, c.name+", torn", torn, 1)
	}
}

// TestExample is the chapter's.
func TestExample(t *testing.T) {
	f := flashOf(2, 4, 64)
	text := strings.Repeat("x", 100)
	f, done, fault := store.Write(f, "a", []byte(text), 150)
	wantWritten(t, "150 bytes", f, flashOf(2, 4, 64, piece(1, "a", 0, false, text[:48]), piece(2, "a", 1, false, text[:48]), torn(piece(3, "a", 2, true, "xxxx"), 22)), done, false, fault, api.OK)
	_, fault = store.ReadFile(f, "a")
	wantFault(t, "ReadFile", fault, api.ErrNone)
	f, done, fault = store.Write(f, "a", []byte(text), -1)
	wantFault(t, "again", fault, api.OK)
	wantSame(t, "again", done, true)
	for i, want := range [][]byte{piece(4, "a", 0, false, text[:48]), piece(5, "a", 1, false, text[:48]), piece(6, "a", 2, true, "xxxx")} {
		wantList(t, "again", bytesOf(f, 3+i), want)
	}
}

// TestNextGen (S4).
func TestNextGen(t *testing.T) {
	with := func(b []byte, l ...byte) []byte {
		copy(b, l)
		return b
	}
	x := piece(3, "x", 0, true, "x")
	for _, c := range []struct {
		name  string
		pages [][]byte
		want  int
	}{
		{"nothing", nil, 1},
		{"whole ones", [][]byte{piece(7, "x", 0, true, "x"), piece(9, "y", 5, true, "x"), piece(8, "z", 0, true, "x")}, 10},
		{"gone", [][]byte{gonePiece(5, "x")}, 6},
		{"a torn one", [][]byte{x, torn(piece(9, "x", 0, true, "x"), 4)}, 10},
		{"torn in its gen", [][]byte{x, torn(piece(0x010203, "x", 0, true, "x"), 3)}, 0x010300},
		{"torn behind a byte", [][]byte{x, torn(piece(9, "x", 0, true, "x"), 1)}, 0x1000000},
		{"damaged in its gen", [][]byte{damaged(x, 16)}, 0x8004},
		{"damaged elsewhere", [][]byte{damaged(piece(9, "x", 0, true, "x"), 400)}, 10},
		{"no gen", [][]byte{x, with(freePage(64), 255, 255, 255, 255, 0)}, 4},
		{"0", [][]byte{make([]byte, 64)}, 1},
		{"of a bad block", [][]byte{x, nil, nil, nil, piece(50, "y", 0, true, "x")}, 4},
	} {
		for i, b := range c.pages {
			if b == nil {
				c.pages[i] = freePage(64)
			}
		}
		f := flashOf(2, 4, 64, c.pages...)
		f.Bad = []int{1}
		want := copyOf(f)
		copy(bytesOf(want, freeOf(f)[0]), piece(c.want, "a", 0, true, "b"))
		got, done, fault := store.Write(f, "a", []byte("b"), -1)
		wantWritten(t, c.name, got, want, done, true, fault, api.OK)
	}
}

func TestWriteFaults(t *testing.T) {
	x := piece(3, "x", 0, true, "x")
	bad := flashOf(2, 2, 64, x)
	bad.Bad = []int{1}
	late := func(gen int) api.Flash { return flashOf(2, 4, 64, torn(piece(gen, "x", 0, true, "x"), 4)) }
	beyond := flashOf(1, 2, 64, append([]byte{0xEE, 0x6B, 0x28, 1}, make([]byte, 60)...))
	least := append([]byte{0xFF, 0xFF, 0xFF, 0xFE}, make([]byte, 60)...)
	for _, c := range []struct {
		name string
		f    api.Flash
		many int
		want api.Fault
	}{
		{"as many as there are", flashOf(2, 2, 64, x), 3 * 48, api.OK},
		{"one more", flashOf(2, 2, 64, x), 3*48 + 1, api.ErrFull},
		{"none free", flashOf(1, 1, 64, x), 0, api.ErrFull},
		{"one free", flashOf(1, 2, 64, x), 0, api.OK},
		{"bad ones are not free", bad, 48, api.OK},
		{"one more than good ones", bad, 49, api.ErrFull},
		{"the last gen", late(api.MaxGen - 1), 48, api.OK},
		{"one more gen", late(api.MaxGen - 1), 49, api.ErrFull},
		{"the last gens", late(api.MaxGen - 3), 3 * 48, api.OK},
		{"more gens", late(api.MaxGen - 3), 3*48 + 1, api.ErrFull},
		{"no gen is left", late(api.MaxGen), 0, api.ErrFull},
		{"a greater gen", beyond, 0, api.ErrFull},
		{"the greatest number", flashOf(1, 2, 64, least), 0, api.ErrFull},
		{"more pages than a file may have", flashOf(2, 2, 64), 65536*48 + 1, api.ErrFull},
		{"as many as are in the largest flash", flashOf(64, 64, 64), 4096 * 48, api.OK},
		{"more than in the largest flash", flashOf(64, 64, 64), 4096*48 + 1, api.ErrFull},
	} {
		for _, power := range []int{-1, 0, 1} {
			got, done, fault := store.Write(c.f, "a", make([]byte, c.many), power)
			wantFault(t, c.name, fault, c.want)
			wantSame(t, c.name, done, c.want == api.OK && power < 0)
			if c.want != api.OK {
				wantFlash(t, c.name, got, api.Flash{})
			}
		}
	}
}

func TestDelete(t *testing.T) {
	x, y := piece(3, "x", 0, true, "x"), piece(2, "y", 0, true, "y")
	worn := flashOf(2, 3, 64, x, y)
	worn.Wear = []int{1, 0}
	for _, c := range []struct {
		name string
		f    api.Flash
		at   int
	}{
		{"in the first free page", flashOf(1, 4, 64, x, y), 2},
		{"by wear", worn, 3},
		{"as the last page", flashOf(1, 3, 64, x, y), 2},
	} {
		want := copyOf(c.f)
		for power := -2; power < 70; power++ {
			name, bytesWanted := c.name, 64
			if power >= 0 {
				bytesWanted = min(power, 64)
			}
			copy(bytesOf(want, c.at), torn(gonePiece(4, "x"), bytesWanted))
			got, done, fault := store.Delete(c.f, "x", power)
			wantWritten(t, name, got, want, done, bytesWanted == 64, fault, api.OK)
			names, fault := store.Names(got)
			wantFault(t, name, fault, api.OK)
			if done {
				wantList(t, name, names, []string{"y"})
			} else {
				wantList(t, name, names, []string{"x", "y"})
			}
		}
	}
}

func TestDeleteFaults(t *testing.T) {
	x := piece(3, "x", 0, true, "x")
	last := piece(api.MaxGen, "x", 0, true, "x")
	bad := flashOf(2, 1, 64, x)
	bad.Bad = []int{1}
	for _, c := range []struct {
		name string
		f    api.Flash
		want api.Fault
	}{
		{"there is one", flashOf(1, 2, 64, x), api.OK},
		{"nothing", flashOf(1, 2, 64), api.ErrNone},
		{"another name", flashOf(1, 2, 64, piece(3, "xx", 0, true, "x")), api.ErrNone},
		{"not whole", flashOf(1, 2, 64, piece(3, "x", 0, false, "x")), api.ErrNone},
		{"gone already", flashOf(1, 3, 64, x, gonePiece(4, "x")), api.ErrNone},
		{"none before full", flashOf(1, 1, 64, gonePiece(4, "x")), api.ErrNone},
		{"full", flashOf(1, 1, 64, x), api.ErrFull},
		{"bad ones are not free", bad, api.ErrFull},
		{"the last gen", flashOf(1, 2, 64, piece(api.MaxGen-1, "x", 0, true, "x")), api.OK},
		{"no gen is left", flashOf(1, 2, 64, last), api.ErrFull},
	} {
		got, done, fault := store.Delete(c.f, "x", -1)
		wantFault(t, c.name, fault, c.want)
		wantSame(t, c.name, done, c.want == api.OK)
		if c.want != api.OK {
			wantFlash(t, c.name, got, api.Flash{})
		}
	}
}

// TestAnyPower: behind a loss of power at any byte a file is as it was, or as it was to be, and the others are as they were.
func TestAnyPower(t *testing.T) {
	f := flashOf(2, 5, 64, piece(3, "a", 0, true, "old"), piece(1, "b", 0, false, "x"), piece(2, "b", 1, true, "y"))
	text := strings.Repeat("new", 40)
	for power := range 3*64 + 2 {
		got, done, fault := store.Write(f, "a", []byte(text), power)
		want, wantDone, _ := writtenOf(f, "a", text, power)
		wantWritten(t, "Write", got, want, done, wantDone, fault, api.OK)
		wantSame(t, "done", done, power >= 3*64)
		file := "old"
		if done {
			file = text
		}
		wantSame(t, "files", filesOf(got), map[string]string{"a": file, "b": "xy"})
	}
}

// TestWritesAtRandom compares with the document's words.
func TestWritesAtRandom(t *testing.T) {
	r := rand.New(rand.NewSource(5))
	for range 2000 {
		f := randomFlash(r)
		name, b, power := []string{"a", "b", "ab", "c"}[r.Intn(4)], randomBytes(r, r.Intn(180)), randomPower(r, 200)
		got, done, fault := store.Write(f, name, b, power)
		want, wantDone, wantedFault := writtenOf(f, name, string(b), power)
		wantWritten(t, "Write", got, want, done, wantDone, fault, wantedFault)
		got, done, fault = store.Delete(f, name, power)
		want, wantDone, wantedFault = deletedOf(f, name, power)
		wantWritten(t, "Delete", got, want, done, wantDone, fault, wantedFault)
	}
}

// TestFilesStand: behind all that is done with any power each file is as it was, or as it was to be if all was written.
func TestFilesStand(t *testing.T) {
	r := rand.New(rand.NewSource(6))
	for range 150 {
		f := flashOf(2+r.Intn(4), 1+r.Intn(4), 64)
		if r.Intn(2) == 0 {
			f.Bad = []int{r.Intn(f.Blocks)}
		}
		used(t, r, f, 60, func(before, after api.Flash, done bool, name, b string) {
			t.Helper()
			want := filesOf(before)
			if done && strings.HasPrefix(b, "=") {
				want[name] = b[1:]
			}
			if done && b == "-" {
				delete(want, name)
			}
			wantSame(t, "files", filesOf(after), want)
			wantFault(t, "CheckFlash", store.CheckFlash(after), api.OK)
		})
	}
}
