package store_test

import (
	"math"
	"math/rand"
	"testing"

	"perigee/api"
	"perigee/store"
)

// block is a block of four pages: l live ones, w that are neither free nor live, and free ones. Its Gens are from gen on.
func block(gen int, pages string) [][]byte {
	var l [][]byte
	for i, p := range pages {
		b := freePage(64)
		switch p {
		case 'l':
			b = piece(gen+i, string(rune('A'+gen+i)), 0, true, "live")
		case 'w':
			b = piece(gen+i, string(rune('A'+gen+i)), 0, false, "waste")
		case 't':
			b = torn(piece(gen+i, "torn", 0, true, "waste"), 40)
		case 'd':
			b = damaged(piece(gen+i, "damaged", 0, true, "waste"), 200)
		}
		l = append(l, b)
	}
	return l
}

// blocksOf is a flash with such blocks.
func blocksOf(l ...string) api.Flash {
	var pages [][]byte
	for i, s := range l {
		pages = append(pages, block(1+4*i, s)...)
	}
	return flashOf(len(l), 4, 64, pages...)
}

// S6.
func TestVictim(t *testing.T) {
	const none = -1
	for _, c := range []struct {
		name   string
		blocks []string
		wear   []int
		bad    []int
		want   int
	}{
		{"nothing", []string{"....", "...."}, nil, nil, none},
		{"live ones alone", []string{"ll..", "l..."}, nil, nil, none},
		{"one", []string{"ll..", "lw..", "...."}, nil, nil, 1},
		{"a torn one", []string{"ll..", "lt..", "...."}, nil, nil, 1},
		{"a damaged one", []string{"ll..", "ld..", "...."}, nil, nil, 1},
		{"the fewest live ones", []string{"llw.", "lw..", "lllw", "...."}, []int{0, 9, 0, 0}, nil, 1},
		{"no live ones", []string{"lwww", "w...", "...."}, nil, nil, 1},
		{"the fewest live ones, not the most others", []string{"lwww", "llww", "w...", "...."}, nil, nil, 2},
		{"the least wear", []string{"lw..", "lwww", "lw..", "...."}, []int{5, 3, 4, 0}, nil, 1},
		{"the least number", []string{"....", "lw..", "wl..", "lw.."}, []int{0, 3, 3, 3}, nil, 1},
		{"no bad ones", []string{"w...", "lw..", "...."}, nil, []int{0}, 1},
		{"none that is worn out", []string{"w...", "lw..", "...."}, []int{api.MaxWear, 7, 0}, nil, 1},
		{"almost worn out", []string{"w...", "l...", "...."}, []int{api.MaxWear - 1, 0, 0}, nil, 0},
		{"all worn out", []string{"w...", "l...", "w..."}, []int{api.MaxWear, 0, api.MaxWear}, nil, none},
		{"just so much room", []string{"llw.", "llll", "ll.."}, nil, nil, 0},
		{"no room", []string{"lllw", "llll", "ll.."}, nil, nil, none},
		{"its own room does not count", []string{"lw..", "llll"}, nil, nil, none},
		{"room in a bad block does not count", []string{"lw..", "llll", "...."}, nil, []int{2}, none},
		{"room in several blocks", []string{"lllw", "lll.", "lll.", "lll."}, nil, nil, 0},
		{"room in worn out blocks", []string{"lw..", "llll", "...."}, []int{0, 0, api.MaxWear}, nil, 0},
		{"no room for fewer, room for none", []string{"lwww", "wwww"}, nil, nil, 1},
		{"none live needs no room", []string{"wwww"}, nil, nil, 0},
		{"no room for the least wear", []string{"llww", "llw."}, []int{1, 0}, nil, none},
		{"room for one of two with as many", []string{"llw.", "llw.", "ll..", "llll"}, nil, nil, 0},
		{"bad ones alone", []string{"wwww"}, nil, []int{0}, none},
	} {
		f := blocksOf(c.blocks...)
		if c.wear != nil {
			f.Wear = c.wear
		}
		f.Bad = c.bad
		got, ok, fault := store.Victim(f)
		wantFault(t, c.name, fault, api.OK)
		wantSame(t, c.name, ok, c.want != none)
		wantSame(t, c.name, got, max(c.want, 0))
		cleaned, done, fault := store.Clean(f, -1)
		want, wantDone, wantedFault := cleanedOf(f, -1)
		wantWritten(t, "Clean: "+c.name, cleaned, want, done, wantDone, fault, wantedFault)
		if c.want == none {
			wantFault(t, "Clean: "+c.name, fault, api.ErrNone)
			wantFlash(t, "Clean: "+c.name, cleaned, api.Flash{})
		} else {
			wantSame(t, "Clean: "+c.name, done, true)
			wantSame(t, "Clean: "+c.name, cleaned.Wear[c.want], f.Wear[c.want]+1)
		}
	}
}

func TestClean(t *testing.T) {
	a, b, c := piece(4, "a", 1, true, "two"), piece(3, "a", 0, false, "one"), piece(2, "a", 0, true, "old")
	free := freePage(64)
	f := flashOf(4, 3, 64, a, c, b, free, gonePiece(9, "gone"), free, free, free, free, free)
	f.Wear, f.Bad = []int{5, 6, 0, 5}, []int{2}
	cleaned := flashOf(4, 3, 64, free, free, free, free, gonePiece(9, "gone"), free, free, free, free, a, b)
	cleaned.Wear, cleaned.Bad = []int{6, 6, 0, 5}, []int{2}
	// The gone one goes without anything live; then the old one with both others, by wear not into the block 1.
	first := copyOf(f)
	copy(bytesOf(first, 4), free)
	first.Wear[1]++
	got, done, fault := store.Clean(f, 1)
	wantWritten(t, "first", got, first, done, true, fault, api.OK)
	got, done, fault = store.Clean(f, 0)
	wantWritten(t, "first, no power", got, f, done, false, fault, api.OK)

	copy(bytesOf(cleaned, 4), free)
	cleaned.Wear[1]++
	for _, power := range []int{-1, math.MinInt, 129, 130, math.MaxInt} {
		got, done, fault = store.Clean(first, power)
		wantWritten(t, "then", got, cleaned, done, true, fault, api.OK)
	}
	for power := range 129 {
		want := copyOf(first)
		copy(bytesOf(want, 9), torn(a, min(power, 64)))
		copy(bytesOf(want, 10), torn(b, max(power-64, 0)))
		got, done, fault = store.Clean(first, power)
		wantWritten(t, "then, less power", got, want, done, false, fault, api.OK)
		wantSame(t, "files", filesOf(got), map[string]string{"a": "onetwo"})
	}
	_, done, fault = store.Clean(cleaned, -1)
	wantFault(t, "at last", fault, api.ErrNone)
	wantSame(t, "at last", done, false)
}

// TestCleanWearsOut: a block is erased up to MaxWear times.
func TestCleanWearsOut(t *testing.T) {
	f := blocksOf("w...", "....")
	f.Wear[0] = api.MaxWear - 1
	f, done, fault := store.Clean(f, -1)
	wantFault(t, "Clean", fault, api.OK)
	wantSame(t, "Clean", done, true)
	wantList(t, "Clean", f.Wear, []int{api.MaxWear, 0})
	wantFault(t, "CheckFlash", store.CheckFlash(f), api.OK)
}

// TestGoneStaysGone: that a file is gone is kept as long as there is another version of it, wherever that is written to.
func TestGoneStaysGone(t *testing.T) {
	old := piece(1, "a", 0, true, "old")
	f := flashOf(3, 2, 64, gonePiece(2, "a"), torn(old, 9), old, piece(3, "b", 0, true, "b"))
	for _, want := range [][]int{{0, 3}, {3, 4}, {5}, {0}} {
		live, fault := store.Live(f)
		wantFault(t, "Live", fault, api.OK)
		wantList(t, "Live", live, want)
		names, fault := store.Names(f)
		wantFault(t, "Names", fault, api.OK)
		wantList(t, "Names", names, []string{"b"})
		f, _, _ = store.Clean(f, -1)
	}
	wantFlash(t, "at last there is no victim", f, api.Flash{})
}

func TestCleanAtRandom(t *testing.T) {
	r := rand.New(rand.NewSource(7))
	cleaned := 0
	for range 1500 {
		f := randomFlash(r)
		power := randomPower(r, 200)
		block, ok, fault := store.Victim(f)
		wantFault(t, "Victim", fault, api.OK)
		wantBlock, wantOk := victimOf(f)
		wantSame(t, "Victim", []any{block, ok}, []any{wantBlock, wantOk})
		got, done, fault := store.Clean(f, power)
		want, wantDone, wantedFault := cleanedOf(f, power)
		wantWritten(t, "Clean", got, want, done, wantDone, fault, wantedFault)
		if fault == api.OK {
			cleaned++
		}
	}
	if cleaned < 300 {
		t.Errorf("only %d were cleaned up", cleaned)
	}
}

// TestCleaningUpAgainAndAgain leaves free all that is not live, but for blocks with no room for what is live, or worn out.
func TestCleaningUpAgainAndAgain(t *testing.T) {
	r := rand.New(rand.NewSource(8))
	for range 200 {
		f := flashOf(2+r.Intn(4), 1+r.Intn(4), 64)
		for i := range f.Wear {
			f.Wear[i] = api.MaxWear - r.Intn(3)
		}
		used(t, r, f, 12, func(_, after api.Flash, _ bool, _, _ string) { f = after })
		files := filesOf(f)
		for left := f.Blocks*f.PerBlock + 1; ; left-- {
			next, done, fault := store.Clean(f, -1)
			if fault == api.ErrNone {
				break
			}
			wantSame(t, "Clean", []any{done, fault}, []any{true, api.OK})
			if left == 0 {
				t.Fatal("cleaning up does not end")
			}
			f = next
			wantSame(t, "files", filesOf(f), files)
		}
		live := liveOf(f)
		for block := range f.Blocks {
			used := f.PerBlock - len(inBlock(f, freeOf(f), block, true))
			mine := len(inBlock(f, live, block, true))
			if used > mine && mine <= len(inBlock(f, freeOf(f), block, false)) && f.Wear[block] < api.MaxWear {
				t.Errorf("the block %d is not cleaned up", block)
			}
		}
	}
}
