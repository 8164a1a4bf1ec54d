package store_test

import (
	"bytes"
	"math"
	"math/rand"
	"slices"
	"strings"
	"testing"

	"perigee/api"
	"perigee/store"
)

// S2.
func TestSum(t *testing.T) {
	for _, c := range []struct {
		name string
		b    []byte
		want int
	}{
		{"nothing", nil, 65535},
		{"empty", []byte{}, 65535},
		{"digits", []byte("123456789"), 0x29B1},
		{"zero", []byte{0}, 0xE1F0},
		{"most", make([]byte, api.MaxFlash), sumOf(make([]byte, api.MaxFlash))},
	} {
		got, f := store.Sum(c.b)
		wantFault(t, c.name, f, api.OK)
		wantSame(t, c.name, got, c.want)
	}
	got, f := store.Sum(make([]byte, api.MaxFlash+1))
	wantFault(t, "one more", f, api.ErrLarge)
	wantSame(t, "one more", got, 0)
	r := rand.New(rand.NewSource(2))
	for range 300 {
		b := randomBytes(r, r.Intn(80))
		got, _ := store.Sum(b)
		wantSame(t, "any bytes", got, sumOf(b))
	}
}

func TestEncode(t *testing.T) {
	long := strings.Repeat("n", api.MaxStored)
	for _, c := range []struct {
		name string
		size int
		x    api.PageInfo
		want []byte
	}{
		{"as in the tests", 64, api.PageInfo{Gen: 1, Name: "a", Last: true, Bytes: []byte("hi")}, []byte{0, 0, 0, 1, 1, 1, 0, 0, 0, 2, 1, 0, 'a', 'h', 'i'}},
		{"without bytes, not the last one", 65, api.PageInfo{Gen: 258, Name: "ab", Index: 515}, []byte{0, 0, 1, 2, 1, 2, 2, 3, 0, 0, 0, 0, 'a', 'b'}},
		{"gone", 64, api.PageInfo{Gen: 3, Gone: true, Name: "!~", Last: true}, []byte{0, 0, 0, 3, 2, 2, 0, 0, 0, 0, 1, 0, '!', '~'}},
		{"bounds", 1024, api.PageInfo{Gen: api.MaxGen, Name: long, Index: 65535, Bytes: make([]byte, 977)}, append([]byte("\xEE\x6B\x28\x00\x01\x20\xFF\xFF\x03\xD1\x00\x00"+long), make([]byte, 977)...)},
		{"full", 64, api.PageInfo{Gen: 1, Name: "a", Bytes: make([]byte, 48)}, append([]byte{0, 0, 0, 1, 1, 1, 0, 0, 0, 48, 0, 0, 'a'}, make([]byte, 48)...)},
	} {
		got, f := store.Encode(c.size, c.x)
		wantFault(t, c.name, f, api.OK)
		wantList(t, c.name, got, sealed(c.size, c.want...))
		wantSame(t, c.name, len(got), c.size)
		state, x, f := store.Decode(got)
		wantFault(t, c.name, f, api.OK)
		wantSame(t, c.name, state, api.PageWhole)
		wantPage(t, c.name, x, c.x)
	}
}

func TestEncodeFaults(t *testing.T) {
	good := api.PageInfo{Gen: 1, Name: "a", Bytes: []byte("x")}
	gone := api.PageInfo{Gen: 1, Gone: true, Name: "a", Last: true}
	with := func(x api.PageInfo, how func(x *api.PageInfo)) api.PageInfo {
		how(&x)
		return x
	}
	for _, c := range []struct {
		name string
		size int
		x    api.PageInfo
		want api.Fault
	}{
		{"right", 64, good, api.OK},
		{"right, gone", 64, gone, api.OK},
		{"size below", 63, good, api.ErrRange},
		{"size above", 1025, good, api.ErrRange},
		{"size far below", math.MinInt, good, api.ErrRange},
		{"size before name", 63, api.PageInfo{Gen: 1}, api.ErrRange},
		{"gen below", 64, with(good, func(x *api.PageInfo) { x.Gen = 0 }), api.ErrRange},
		{"gen above", 64, with(good, func(x *api.PageInfo) { x.Gen = api.MaxGen + 1 }), api.ErrRange},
		{"gen before name", 64, api.PageInfo{}, api.ErrRange},
		{"no name", 64, with(good, func(x *api.PageInfo) { x.Name = "" }), api.ErrName},
		{"long name", 64, with(good, func(x *api.PageInfo) { x.Name = strings.Repeat("n", api.MaxStored+1) }), api.ErrName},
		{"blank", 64, with(good, func(x *api.PageInfo) { x.Name = "a b" }), api.ErrName},
		{"byte 127", 64, with(good, func(x *api.PageInfo) { x.Name = "a\x7F" }), api.ErrName},
		{"letter that is none of ASCII", 64, with(good, func(x *api.PageInfo) { x.Name = "\xC3\xA4" }), api.ErrName},
		{"name before index", 64, with(good, func(x *api.PageInfo) { x.Name, x.Index = "", -1 }), api.ErrName},
		{"index below", 64, with(good, func(x *api.PageInfo) { x.Index = -1 }), api.ErrRange},
		{"index above", 64, with(good, func(x *api.PageInfo) { x.Index = 65536 }), api.ErrRange},
		{"index before bytes", 64, with(good, func(x *api.PageInfo) { x.Index, x.Bytes = 65536, make([]byte, 49) }), api.ErrRange},
		{"a byte too many", 64, with(good, func(x *api.PageInfo) { x.Bytes = make([]byte, 49) }), api.ErrLarge},
		{"a byte too many for the name", 64, with(good, func(x *api.PageInfo) { x.Name, x.Bytes = "ab", make([]byte, 48) }), api.ErrLarge},
		{"bytes before gone", 64, with(gone, func(x *api.PageInfo) { x.Bytes = make([]byte, 49) }), api.ErrLarge},
		{"gone with bytes", 64, with(gone, func(x *api.PageInfo) { x.Bytes = []byte("x") }), api.ErrForm},
		{"gone with index", 64, with(gone, func(x *api.PageInfo) { x.Index = 1 }), api.ErrForm},
		{"gone, not the last one", 64, with(gone, func(x *api.PageInfo) { x.Last = false }), api.ErrForm},
		{"index before gone", 64, with(gone, func(x *api.PageInfo) { x.Index = -1 }), api.ErrRange},
	} {
		b, f := store.Encode(c.size, c.x)
		wantFault(t, c.name, f, c.want)
		if f != api.OK {
			wantList(t, c.name, b, nil)
		}
	}
}

func TestDecode(t *testing.T) {
	// In these the sum and the mark are right, whatever is wrong.
	page := func(b ...byte) []byte { return sealed(64, b...) }
	whole := page(0, 0, 0, 1, 1, 1, 0, 0, 0, 2, 1, 0, 'a', 'h', 'i')
	for _, c := range []struct {
		name string
		b    []byte
		want int
	}{
		{"whole", whole, api.PageWhole},
		{"free", freePage(64), api.PageFree},
		{"free, the largest one", freePage(1024), api.PageFree},
		{"free but for a bit", damaged(freePage(64), 3), api.PageTorn},
		{"free but for the mark", append(freePage(63), 165), api.PageDamaged},
		{"without the mark", torn(whole, 63), api.PageTorn},
		{"one byte of it", torn(whole, 1), api.PageTorn},
		{"another mark", damaged(whole, 511), api.PageTorn},
		{"another sum", damaged(whole, 500), api.PageDamaged},
		{"another sum's first byte", damaged(whole, 488), api.PageDamaged},
		{"other bytes", damaged(whole, 13*8), api.PageDamaged},
		{"zeros", make([]byte, 64), api.PageTorn},
		{"gone", page(0, 0, 0, 1, 2, 1, 0, 0, 0, 0, 1, 0, 'a'), api.PageWhole},
		{"no gen", page(0, 0, 0, 0, 1, 1, 0, 0, 0, 2, 1, 0, 'a', 'h', 'i'), api.PageDamaged},
		{"the greatest gen", page(0xEE, 0x6B, 0x28, 0, 1, 1, 0, 0, 0, 2, 1, 0, 'a', 'h', 'i'), api.PageWhole},
		{"a greater gen", page(0xEE, 0x6B, 0x28, 1, 1, 1, 0, 0, 0, 2, 1, 0, 'a', 'h', 'i'), api.PageDamaged},
		{"no kind", page(0, 0, 0, 1, 0, 1, 0, 0, 0, 2, 1, 0, 'a', 'h', 'i'), api.PageDamaged},
		{"another kind", page(0, 0, 0, 1, 3, 1, 0, 0, 0, 0, 1, 0, 'a'), api.PageDamaged},
		{"no name", page(0, 0, 0, 1, 1, 0, 0, 0, 0, 2, 1, 0, 'h', 'i'), api.PageDamaged},
		{"a blank", page(0, 0, 0, 1, 1, 1, 0, 0, 0, 2, 1, 0, ' ', 'h', 'i'), api.PageDamaged},
		{"byte 127", page(0, 0, 0, 1, 1, 1, 0, 0, 0, 2, 1, 0, 127, 'h', 'i'), api.PageDamaged},
		{"the longest name", page([]byte("\x00\x00\x00\x01\x01\x20\x00\x00\x00\x02\x01\x00" + strings.Repeat("n", 32) + "hi")...), api.PageWhole},
		{"a longer name", page([]byte("\x00\x00\x00\x01\x01\x21\x00\x00\x00\x02\x01\x00" + strings.Repeat("n", 33) + "hi")...), api.PageDamaged},
		{"a name behind the end", page([]byte("\x00\x00\x00\x01\x01\xFF\x00\x00\x00\x02\x01\x00" + strings.Repeat("n", 49))...), api.PageDamaged},
		{"a name up to the sum", page([]byte("\x00\x00\x00\x01\x01\x31\x00\x00\x00\x00\x01\x00" + strings.Repeat("n", 49))...), api.PageDamaged},
		{"full", page([]byte("\x00\x00\x00\x01\x01\x01\x00\x00\x00\x30\x01\x00a" + strings.Repeat("x", 48))...), api.PageWhole},
		{"bytes behind the end", page([]byte("\x00\x00\x00\x01\x01\x01\x00\x00\x00\x31\x01\x00a" + strings.Repeat("x", 48))...), api.PageDamaged},
		{"bytes up to the page's end", page([]byte("\x00\x00\x00\x01\x01\x01\x00\x00\x00\x33\x01\x00a" + strings.Repeat("x", 48))...), api.PageDamaged},
		{"bytes behind the page's end", page([]byte("\x00\x00\x00\x01\x01\x01\x00\x00\x00\x34\x01\x00a" + strings.Repeat("x", 48))...), api.PageDamaged},
		{"bytes far behind the end", page([]byte("\x00\x00\x00\x01\x01\x01\x00\x00\xFF\xFF\x01\x00a" + strings.Repeat("x", 48))...), api.PageDamaged},
		{"another last", page(0, 0, 0, 1, 1, 1, 0, 0, 0, 2, 2, 0, 'a', 'h', 'i'), api.PageDamaged},
		{"not the last one", page(0, 0, 0, 1, 1, 1, 0, 0, 0, 2, 0, 0, 'a', 'h', 'i'), api.PageWhole},
		{"no zero", page(0, 0, 0, 1, 1, 1, 0, 0, 0, 2, 1, 1, 'a', 'h', 'i'), api.PageDamaged},
		{"not filled up", page(0, 0, 0, 1, 1, 1, 0, 0, 0, 2, 1, 0, 'a', 'h', 'i', 'j'), api.PageDamaged},
		{"not filled up at the end", page(append(bytes.Clone(whole[:60]), 0)...), api.PageDamaged},
		{"gone with bytes", page(0, 0, 0, 1, 2, 1, 0, 0, 0, 2, 1, 0, 'a', 'h', 'i'), api.PageDamaged},
		{"gone with index", page(0, 0, 0, 1, 2, 1, 0, 1, 0, 0, 1, 0, 'a'), api.PageDamaged},
		{"gone, not the last one", page(0, 0, 0, 1, 2, 1, 0, 0, 0, 0, 0, 0, 'a'), api.PageDamaged},
		{"the greatest index", page(0, 0, 0, 1, 1, 1, 255, 255, 0, 2, 1, 0, 'a', 'h', 'i'), api.PageWhole},
	} {
		state, x, f := store.Decode(slices.Clip(c.b))
		wantFault(t, c.name, f, api.OK)
		wantSame(t, c.name, state, c.want)
		_, want := stateOf(c.b)
		wantPage(t, c.name, x, want)
	}
	for _, size := range []int{0, 63, 1025, 4096} {
		state, x, f := store.Decode(freePage(size))
		wantFault(t, "size", f, api.ErrForm)
		wantSame(t, "size", state, 0)
		wantPage(t, "size", x, api.PageInfo{})
	}
}

func TestPagesAtRandom(t *testing.T) {
	r := rand.New(rand.NewSource(3))
	for range 500 {
		size := 64 + r.Intn(100)
		name := make([]byte, 1+r.Intn(32))
		for i := range name {
			name[i] = byte(33 + r.Intn(94))
		}
		x := api.PageInfo{Gen: 1 + r.Intn(api.MaxGen), Name: string(name), Index: r.Intn(65536), Last: r.Intn(2) == 0}
		x.Bytes = randomBytes(r, r.Intn(size-14-len(name)))
		if r.Intn(4) == 0 {
			x.Gone, x.Index, x.Last, x.Bytes = true, 0, true, nil
		}
		b, f := store.Encode(size, x)
		wantFault(t, "Encode", f, api.OK)
		wantList(t, "Encode", b, pageOf(size, x))
		state, y, f := store.Decode(b)
		wantFault(t, "Decode", f, api.OK)
		wantSame(t, "Decode", state, api.PageWhole)
		wantPage(t, "Decode", y, x)
	}
}

// TestOneFlippedBitIsTold: a page of which one bit is another one is never another whole page.
func TestOneFlippedBitIsTold(t *testing.T) {
	for _, b := range [][]byte{piece(1, "a", 0, true, "hi"), gonePiece(7, "b"), pageOf(1024, api.PageInfo{Gen: 5, Name: "c", Bytes: make([]byte, 900)})} {
		for bit := range 8 * len(b) {
			want := api.PageDamaged
			if bit >= 8*len(b)-8 {
				want = api.PageTorn
			}
			state, x, f := store.Decode(damaged(b, bit))
			wantFault(t, "Decode", f, api.OK)
			wantSame(t, "Decode", state, want)
			wantPage(t, "Decode", x, api.PageInfo{})
		}
	}
}

// TestPagesThatWereBegun: of a page that is written, the first bytes are no whole page, and not free.
func TestPagesThatWereBegun(t *testing.T) {
	for _, b := range [][]byte{piece(1, "a", 0, true, "hi"), gonePiece(api.MaxGen, "b"), piece(9, "c", 2, false, strings.Repeat("\xFF", 48))} {
		for many := 1; many < 64; many++ {
			state, _, _ := store.Decode(torn(b, many))
			wantSame(t, "Decode", state, api.PageTorn)
		}
	}
}
