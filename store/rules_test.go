package store_test

import (
	"math"
	"math/rand"
	"slices"
	"strings"
	"testing"

	"perigee/api"
	"perigee/store"
)

// all calls all functions with a flash.
func all(f api.Flash, name string, b []byte, number int) {
	store.CheckFlash(f)
	store.States(f)
	store.Free(f)
	store.Versions(f, name)
	store.Names(f)
	store.ReadFile(f, name)
	store.Live(f)
	store.Room(f, name)
	store.Write(f, name, b, number)
	store.Delete(f, name, number)
	store.Victim(f)
	store.Clean(f, number)
	store.Flip(f, number)
}

// TestNothingPanics (R1): each function returns for all arguments.
func TestNothingPanics(t *testing.T) {
	r := rand.New(rand.NewSource(9))
	numbers := []int{math.MinInt, -1, 0, 1, 2, 63, 64, 65, 1024, api.MaxFlash, api.MaxGen, 1 << 32, math.MaxInt}
	names := []string{"", "a", "\xff", strings.Repeat("x", 300)}
	good := flashOf(2, 2, 64, piece(1, "a", 0, true, "x"))
	for _, n := range numbers {
		for _, m := range numbers {
			store.Format(n, m, 64, []int{n, m})
			store.Format(m, 64, n, nil)
			store.Format(64, n, m, nil)
			f := copyOf(good)
			f.Blocks, f.PerBlock, f.Wear, f.Bad = n, m, []int{m, n}, []int{n}
			all(f, "a", nil, m)
			f = copyOf(good)
			f.PageSize, f.Wear, f.Bad = n, []int{m, n}, []int{n, m}
			all(f, "a", nil, m)
			for _, name := range names {
				all(good, name, make([]byte, 100), n)
				store.Encode(n, api.PageInfo{Gen: m, Name: name, Index: n, Bytes: make([]byte, 60)})
				store.Encode(64, api.PageInfo{Gen: 1, Gone: true, Name: name, Index: m, Last: true})
			}
		}
	}
	for size := range 1100 {
		b := randomBytes(r, size)
		store.Decode(b)
		store.Decode(sealed(size, b...))
		store.Sum(b)
	}
	for range 300 {
		f := flashOf(3, 3, 64)
		for i := range 9 {
			copy(bytesOf(f, i), sealed(64, randomBytes(r, r.Intn(62))...))
		}
		all(f, "a", randomBytes(r, 100), r.Intn(300))
		f.Data = randomBytes(r, len(f.Data))
		all(f, "a", randomBytes(r, 100), r.Intn(300))
	}
}

// spare returns a slice with the same elements and spare capacity, and a function that says whether all of it is as it was.
func spare[E comparable](l []E) ([]E, func() bool) {
	all := append(slices.Clone(l), l...)
	was := slices.Clone(all)
	return all[:len(l)], func() bool { return slices.Equal(all, was) }
}

// TestArgumentsStayAsTheyAre (R2), their spare capacity too, also if the results are changed.
func TestArgumentsStayAsTheyAre(t *testing.T) {
	f := flashOf(3, 2, 64, piece(1, "a", 0, true, "old"), piece(2, "a", 0, true, "new"))
	data, dataIs := spare(f.Data)
	wear, wearIs := spare([]int{1, 0, 0})
	bad, badIs := spare([]int{2})
	text, textIs := spare([]byte(strings.Repeat("x", 60)))
	f.Data, f.Wear, f.Bad = data, wear, bad
	change := func(f api.Flash, fault api.Fault) {
		t.Helper()
		wantFault(t, "flash", fault, api.OK)
		f.Data, f.Wear, f.Bad = append(f.Data, 7), append(f.Wear, 7), append(f.Bad, 7)
		for i := range f.Wear {
			f.Wear[i] = 77
		}
		if slices.Contains(f.Bad, 77) {
			t.Error("Wear and Bad share memory")
		}
		for i := range f.Bad {
			f.Bad[i] = 76
		}
		for i := range f.Data {
			f.Data[i] = 75
		}
	}
	for _, power := range []int{-1, 0, 70} {
		x, _, fault := store.Write(f, "a", text, power)
		change(x, fault)
		x, _, fault = store.Delete(f, "a", power)
		change(x, fault)
		x, _, fault = store.Clean(f, power)
		change(x, fault)
	}
	change(store.Flip(f, 5))
	change(store.Format(3, 2, 64, bad))
	b, _ := store.ReadFile(f, "a")
	b[0]++
	b = append(b, 1, 2, 3)
	b[0]++
	free, _ := store.Free(f)
	free[0] = 77
	states, _ := store.States(f)
	states[0] = 77
	all(f, "a", text, -1)
	page, pageIs := spare(piece(1, "a", 0, true, "hi"))
	_, x, _ := store.Decode(page)
	x.Bytes[0]++
	x.Bytes = append(x.Bytes, 1, 2, 3)
	x.Bytes[1]++
	b, _ = store.Encode(64, api.PageInfo{Gen: 1, Name: "a", Bytes: text[:40]})
	b[20]++
	store.Sum(text)
	if !dataIs() || !wearIs() || !badIs() || !textIs() || !pageIs() {
		t.Error("an argument was changed")
	}
}

// TestListsMayShareMemory: Wear and Bad of an argument can be one list.
func TestListsMayShareMemory(t *testing.T) {
	f := blocksOf("w...", "....", "....")
	l := []int{0, 1, 2}
	f.Wear, f.Bad = l, l[1:]
	f, done, fault := store.Clean(f, -1)
	wantFault(t, "Clean", fault, api.OK)
	wantSame(t, "Clean", done, true)
	wantList(t, "Clean", f.Wear, []int{1, 1, 2})
	wantList(t, "Clean", f.Bad, []int{1, 2})
	wantList(t, "Clean", l, []int{0, 1, 2})
}

// TestNilAndEmptyAreTheSame (R4).
func TestNilAndEmptyAreTheSame(t *testing.T) {
	f, fault := store.Format(1, 2, 64, []int{})
	wantFault(t, "Format", fault, api.OK)
	wantFlash(t, "Format", f, flashOf(1, 2, 64))
	for _, none := range [][]byte{nil, {}} {
		f.Bad = []int{}
		x, done, fault := store.Write(f, "a", none, -1)
		wantWritten(t, "Write", x, flashOf(1, 2, 64, piece(1, "a", 0, true, "")), done, true, fault, api.OK)
		b, fault := store.ReadFile(x, "a")
		wantFault(t, "ReadFile", fault, api.OK)
		wantList(t, "ReadFile", b, nil)
		b, fault = store.Encode(64, api.PageInfo{Gen: 1, Gone: true, Name: "a", Last: true, Bytes: none})
		wantFault(t, "Encode", fault, api.OK)
		wantList(t, "Encode", b, gonePiece(1, "a"))
		_, _, fault = store.Decode(none)
		wantFault(t, "Decode", fault, api.ErrForm)
	}
}

// TestResultsAreAlwaysTheSame (R4): nothing is kept from call to call, and nothing depends on the order of a map.
func TestResultsAreAlwaysTheSame(t *testing.T) {
	var pages [][]byte
	for i := range 64 {
		pages = append(pages, piece(1+3*i, string(rune('A'+i%20)), 0, true, "x"), piece(2+3*i, string(rune('A'+i%20)), 5, false, "y"))
	}
	f := flashOf(32, 8, 64, pages...)
	type results struct {
		names    []string
		versions []api.Version
		live     []int
		victim   int
		data     string
	}
	get := func() results {
		var x results
		x.names, _ = store.Names(f)
		x.versions, _ = store.Versions(f, "C")
		x.live, _ = store.Live(f)
		x.victim, _, _ = store.Victim(f)
		cleaned, _, _ := store.Clean(f, -1)
		x.data = string(cleaned.Data)
		return x
	}
	first := get()
	wantSame(t, "names", len(first.names), 20)
	for range 20 {
		wantSame(t, "results", get(), first)
	}
}
