package store_test

import (
	"math"
	"math/rand"
	"testing"

	"perigee/api"
	"perigee/store"
)

// S1.
func TestCheckFlash(t *testing.T) {
	badFlashes(func(name string, f api.Flash, want api.Fault) {
		wantFault(t, name, store.CheckFlash(f), want)
	})
	worn := flashOf(3, 1, 64)
	worn.Wear, worn.Bad = []int{0, api.MaxWear, 5}, []int{0, 1, 2}
	for _, c := range []struct {
		name string
		f    api.Flash
	}{
		{"least", flashOf(1, 1, api.MinPageSize)},
		{"most blocks and pages", flashOf(api.MaxBlocks, api.MaxPerBlock, 64)},
		{"most blocks and bytes", flashOf(api.MaxBlocks, 4, api.MaxPageSize)},
		{"most pages and bytes", flashOf(4, api.MaxPerBlock, api.MaxPageSize)},
		{"worn and bad", worn},
		{"bytes of any kind", flashOf(1, 2, 64, make([]byte, 64), piece(1, "a", 0, true, "x"))},
	} {
		wantFault(t, c.name, store.CheckFlash(c.f), api.OK)
	}
}

func TestFormat(t *testing.T) {
	for _, c := range []struct {
		name                       string
		blocks, perBlock, pageSize int
		bad                        []int
		want                       api.Fault
	}{
		{"as in the tests", 2, 4, 64, nil, api.OK},
		{"least", 1, 1, api.MinPageSize, nil, api.OK},
		{"most blocks and pages", api.MaxBlocks, api.MaxPerBlock, 64, nil, api.OK},
		{"most bytes of a page", 16, 16, api.MaxPageSize, nil, api.OK},
		{"bad ones", 4, 1, 65, []int{0, 1, 3}, api.OK},
		{"no blocks", 0, 4, 64, nil, api.ErrRange},
		{"blocks above", 65, 4, 64, nil, api.ErrRange},
		{"no pages", 2, 0, 64, nil, api.ErrRange},
		{"pages above", 2, 65, 64, nil, api.ErrRange},
		{"page below", 2, 4, 63, nil, api.ErrRange},
		{"page above", 2, 4, 1025, nil, api.ErrRange},
		{"far below", math.MinInt, math.MinInt, math.MinInt, nil, api.ErrRange},
		{"far above", math.MaxInt, math.MaxInt, math.MaxInt, nil, api.ErrRange},
		{"too many bytes", 64, 64, 65, nil, api.ErrLarge},
		{"range before too many bytes", 64, 65, 65, nil, api.ErrRange},
		{"too many bytes before bad ones", 64, 64, 1024, []int{-1}, api.ErrLarge},
		{"bad below", 2, 4, 64, []int{-1}, api.ErrRange},
		{"bad above", 2, 4, 64, []int{0, 2}, api.ErrRange},
		{"bad twice", 2, 4, 64, []int{0, 0}, api.ErrOrder},
		{"bad backwards", 2, 4, 64, []int{1, 0}, api.ErrOrder},
		{"order before range of the next one", 2, 4, 64, []int{1, 0, 2}, api.ErrOrder},
	} {
		got, f := store.Format(c.blocks, c.perBlock, c.pageSize, c.bad)
		wantFault(t, c.name, f, c.want)
		want := api.Flash{}
		if c.want == api.OK {
			want = flashOf(c.blocks, c.perBlock, c.pageSize)
			want.Bad = c.bad
			wantFault(t, c.name, store.CheckFlash(got), api.OK)
		}
		wantFlash(t, c.name, got, want)
	}
}

// TestFlashFaults: all functions with a flash first return its error.
func TestFlashFaults(t *testing.T) {
	zero := func(name string, f api.Flash, ok bool, got, want api.Fault) {
		t.Helper()
		wantFault(t, name, got, want)
		wantFlash(t, name, f, api.Flash{})
		wantSame(t, name, ok, false)
	}
	badFlashes(func(name string, f api.Flash, want api.Fault) {
		for _, file := range []string{"a", ""} {
			states, fault := store.States(f)
			wantFault(t, "States: "+name, fault, want)
			wantList(t, "States: "+name, states, nil)
			free, fault := store.Free(f)
			wantFault(t, "Free: "+name, fault, want)
			wantList(t, "Free: "+name, free, nil)
			versions, fault := store.Versions(f, file)
			wantFault(t, "Versions: "+name, fault, want)
			wantList(t, "Versions: "+name, versions, nil)
			names, fault := store.Names(f)
			wantFault(t, "Names: "+name, fault, want)
			wantList(t, "Names: "+name, names, nil)
			b, fault := store.ReadFile(f, file)
			wantFault(t, "ReadFile: "+name, fault, want)
			wantList(t, "ReadFile: "+name, b, nil)
			live, fault := store.Live(f)
			wantFault(t, "Live: "+name, fault, want)
			wantList(t, "Live: "+name, live, nil)
			room, fault := store.Room(f, file)
			wantFault(t, "Room: "+name, fault, want)
			wantSame(t, "Room: "+name, room, 0)
			x, ok, fault := store.Write(f, file, nil, -1)
			zero("Write: "+name, x, ok, fault, want)
			x, ok, fault = store.Delete(f, file, -1)
			zero("Delete: "+name, x, ok, fault, want)
			block, ok, fault := store.Victim(f)
			zero("Victim: "+name, api.Flash{}, ok, fault, want)
			wantSame(t, "Victim: "+name, block, 0)
			x, ok, fault = store.Clean(f, -1)
			zero("Clean: "+name, x, ok, fault, want)
			x, fault = store.Flip(f, -1)
			zero("Flip: "+name, x, false, fault, want)
		}
	})
}

// S2.
func TestStates(t *testing.T) {
	whole := piece(1, "a", 0, true, "hi")
	f := flashOf(3, 2, 64, whole, freePage(64), torn(whole, 63), damaged(whole, 100), whole, whole)
	f.Bad = []int{2}
	got, fault := store.States(f)
	wantFault(t, "States", fault, api.OK)
	wantList(t, "States", got, []int{api.PageWhole, api.PageFree, api.PageTorn, api.PageDamaged, 0, 0})
	f.Bad = []int{0, 1, 2}
	got, _ = store.States(f)
	wantList(t, "bad ones alone", got, make([]int, 6))
}

func TestFree(t *testing.T) {
	whole := piece(1, "a", 0, true, "hi")
	almost := damaged(freePage(64), 0)
	for _, c := range []struct {
		name string
		f    api.Flash
		wear []int
		bad  []int
		want []int
	}{
		{"all", flashOf(2, 2, 64), []int{0, 0}, nil, []int{0, 1, 2, 3}},
		{"by wear", flashOf(3, 2, 64), []int{2, 0, 1}, nil, []int{2, 3, 4, 5, 0, 1}},
		{"by number then", flashOf(3, 2, 64), []int{7, 3, 7}, nil, []int{2, 3, 0, 1, 4, 5}},
		{"worn out", flashOf(2, 1, 64), []int{api.MaxWear, 0}, nil, []int{1, 0}},
		{"without bad ones", flashOf(3, 2, 64), []int{2, 0, 1}, []int{1}, []int{4, 5, 0, 1}},
		{"without any that is written", flashOf(2, 2, 64, whole, torn(whole, 1), damaged(whole, 9)), []int{0, 0}, nil, []int{3}},
		{"without those with one other bit", flashOf(1, 3, 64, almost, damaged(freePage(64), 511)), []int{0}, nil, []int{2}},
		{"none", flashOf(1, 1, 64, whole), []int{0}, nil, nil},
	} {
		c.f.Wear, c.f.Bad = c.wear, c.bad
		got, fault := store.Free(c.f)
		wantFault(t, c.name, fault, api.OK)
		wantList(t, c.name, got, c.want)
	}
}

// S6.
func TestFlip(t *testing.T) {
	f := flashOf(2, 2, 64, piece(1, "a", 0, true, "hi"))
	f.Wear, f.Bad = []int{3, 4}, []int{1}
	for _, c := range []struct {
		bit, at int
		by      byte
	}{
		{0, 0, 128},
		{7, 0, 1},
		{8, 1, 128},
		{13, 1, 4},
		{2047, 255, 1}, // of a bad block
	} {
		got, fault := store.Flip(f, c.bit)
		wantFault(t, "Flip", fault, api.OK)
		want := copyOf(f)
		want.Data[c.at] ^= c.by
		wantFlash(t, "Flip", got, want)
		got, fault = store.Flip(got, c.bit)
		wantFault(t, "Flip again", fault, api.OK)
		wantFlash(t, "Flip again", got, f)
	}
	for _, bit := range []int{-1, 2048, math.MinInt, math.MaxInt} {
		got, fault := store.Flip(f, bit)
		wantFault(t, "Flip", fault, api.ErrRange)
		wantFlash(t, "Flip", got, api.Flash{})
	}
}

// TestFlashesAtRandom compares with the document's words.
func TestFlashesAtRandom(t *testing.T) {
	r := rand.New(rand.NewSource(1))
	for range 2000 {
		f := randomFlash(r)
		states, fault := store.States(f)
		wantFault(t, "States", fault, api.OK)
		wantList(t, "States", states, statesOf(f))
		free, fault := store.Free(f)
		wantFault(t, "Free", fault, api.OK)
		wantList(t, "Free", free, freeOf(f))
	}
}
